package token_test

import (
	"math/big"
	"math/rand/v2"
	"regexp"
	"slices"
	"strings"
	"testing"
	"unsafe"

	"credenza/api"
	"credenza/token"
	"credenza/units"
)

// The reserved words and the punctuators, as the chapter lists them.
const (
	words = "break case catch class const continue debugger default delete do else enum export extends false finally for function if implements import in instanceof interface let new null package private protected public return static super switch this throw true try typeof var void while with yield"
	signs = "{ } ( ) [ ] . ; , < > <= >= == != === !== + - * / % ++ -- ! && || ? : = += -= *= /= %="
)

// The tokens of a source without its places, without the package's help.
var (
	spaceForm = regexp.MustCompile(`\A(?:[\x09-\x0d\x20]|//[^\x0a\x0d]*|/\*(?s:.*?)\*/)+`)
	identForm = regexp.MustCompile(`\A[A-Za-z_$][A-Za-z0-9_$]*`)
	numForm   = regexp.MustCompile(`\A(?:0[xX][0-9a-fA-F]+|0|[1-9][0-9]*)`)
	stuckForm = regexp.MustCompile(`\A[A-Za-z0-9_$.]`)
	identOnly = regexp.MustCompile(`\A[A-Za-z_$][A-Za-z0-9_$]{0,31}\z`)
)

var isWord = func() map[string]bool {
	m := map[string]bool{}
	for _, w := range strings.Fields(words) {
		m[w] = true
	}
	return m
}()

// cut splits a source by the chapter's words, without the package's help.
func cut(src string) ([]api.Token, int, api.Errno) {
	if len(src) > 4096 {
		return nil, 0, api.ErrLong
	}
	var l []api.Token
	for at := 0; ; {
		space := spaceForm.FindString(src[at:])
		at += len(space)
		x := api.Token{At: at, Fresh: strings.Contains(space, "\n") || strings.Contains(space, "\r")}
		if at == len(src) {
			return append(l, x), 0, api.OK
		}
		size := one(src[at:], &x)
		if size == 0 {
			return nil, at, api.ErrToken
		}
		l = append(l, x)
		at += size
	}
}

// one fills in the token at the beginning of s, and tells its bytes.
func one(s string, x *api.Token) int {
	if strings.HasPrefix(s, "/*") {
		return 0
	}
	if w := identForm.FindString(s); w != "" {
		x.Kind, x.Text = api.TName, w
		if isWord[w] {
			x.Kind = api.TWord
		}
		if len(w) > 32 {
			return 0
		}
		return len(w)
	}
	if d := numForm.FindString(s); d != "" {
		n, ok := new(big.Int).SetString(d, 0)
		if !ok || n.Cmp(big.NewInt(api.MaxSafe)) > 0 || stuckForm.MatchString(s[len(d):]) {
			return 0
		}
		x.Kind, x.Num = api.TNum, n.Int64()
		return len(d)
	}
	if s[0] == '"' || s[0] == '\'' {
		u, size, _ := units.Read(s)
		x.Kind, x.Text = api.TStr, u
		return size
	}
	x.Kind = api.TSign
	for _, p := range strings.Fields(signs) {
		if strings.HasPrefix(s, p) && len(p) > len(x.Text) {
			x.Text = p
		}
	}
	return len(x.Text)
}

func wantCut(t *testing.T, src string, want []api.Token, wantAt int, wantE api.Errno) {
	t.Helper()
	got, at, e := token.Cut(src)
	if !slices.Equal(got, want) || at != wantAt || e != wantE {
		t.Fatalf("Cut(%.300q): got %v, %d, %d, want %v, %d, %d", src, got, at, e, want, wantAt, wantE)
	}
}

// wantSame holds Cut against cut, and tells the error.
func wantSame(t *testing.T, src string) api.Errno {
	t.Helper()
	want, at, e := cut(src)
	wantCut(t, src, want, at, e)
	return e
}

// wantOne wants that token alone, at 0, and the end behind it.
func wantOne(t *testing.T, src string, x api.Token) {
	t.Helper()
	wantCut(t, src, []api.Token{x, {At: len(src)}}, 0, api.OK)
}

func wantWrong(t *testing.T, src string, at int) {
	t.Helper()
	wantCut(t, src, nil, at, api.ErrToken)
}

func name(s string, at int) api.Token {
	return api.Token{Kind: api.TName, Text: s, At: at}
}

func word(s string, at int) api.Token {
	return api.Token{Kind: api.TWord, Text: s, At: at}
}

func num(n int64, at int) api.Token {
	return api.Token{Kind: api.TNum, Num: n, At: at}
}

func text(u string, at int) api.Token {
	return api.Token{Kind: api.TStr, Text: u, At: at}
}

func sign(s string, at int) api.Token {
	return api.Token{Kind: api.TSign, Text: s, At: at}
}

func end(at int) api.Token {
	return api.Token{Kind: api.TEnd, At: at}
}

func fresh(x api.Token) api.Token {
	x.Fresh = true
	return x
}

// joined are all strings of at most most of these pieces.
func joined(pieces []string, most int) []string {
	all, from := []string{""}, 0
	for range most {
		to := len(all)
		for ; from < to; from++ {
			for _, p := range pieces {
				all = append(all, all[from]+p)
			}
		}
	}
	return all
}

// P6.1

func TestIsWord(t *testing.T) {
	if len(isWord) != 45 {
		t.Fatalf("the list has %d words", len(isWord))
	}
	others := []string{"", " ", "\x00", "a", "of", "get", "set", "async", "await", "eval", "arguments", "undefined", "NaN", "Infinity", "goto", "int", "nul", "nil", "True", "FALSE", "$", "_", "1", words, "break case", strings.Repeat("in", 5000)}
	for w := range isWord {
		others = append(others, w, strings.ToUpper(w), strings.ToUpper(w[:1])+w[1:], w[1:], w[:len(w)-1], w+"s", "s"+w, w+" ", " "+w, w+"\x00", w+w, "\x00"+w, w+"1", "_"+w)
		if !token.IsWord(w) {
			t.Errorf("IsWord(%q) is false", w)
		}
		if !token.IsIdent(w) {
			t.Errorf("IsIdent(%q) is false", w)
		}
	}
	for _, s := range others {
		if got := token.IsWord(s); got != isWord[s] {
			t.Errorf("IsWord(%.100q): got %v", s, got)
		}
	}
}

func TestIsWordOfAllShort(t *testing.T) {
	letters := strings.Split("abcdefghijklmnopqrstuvwxyz", "")
	count := 0
	for _, s := range joined(letters, 4) {
		if got := token.IsWord(s); got != isWord[s] {
			t.Errorf("IsWord(%q): got %v", s, got)
		} else if got {
			count++
		}
	}
	if count != 16 {
		t.Errorf("%d words have at most four letters", count)
	}
}

// TestNeighboursOfWords: what differs from a reserved word in one byte is none,
// unless it is another one.
func TestNeighboursOfWords(t *testing.T) {
	for w := range isWord {
		for b := range 256 {
			c := string([]byte{byte(b)})
			for i := range len(w) + 1 {
				l := []string{w[:i] + c + w[i:]}
				if i < len(w) {
					l = append(l, w[:i]+c+w[i+1:], w[:i]+w[i+1:])
				}
				for _, s := range l {
					if got := token.IsWord(s); got != isWord[s] {
						t.Errorf("IsWord(%q): got %v", s, got)
					}
				}
			}
		}
	}
}

func TestIsIdent(t *testing.T) {
	l := []string{"", "a", "_", "$", "a1", "1a", "$1", "_0", "0", "a b", "a-b", "a.b", "aZ", "é", "aé", "a\x00", "a\n", "\na", " a", "a ", `\u0061`}
	for b := range 256 {
		for _, c := range []string{"", "a", "Z", "5", "_", "$", " "} {
			one := string([]byte{byte(b)})
			l = append(l, one+c, c+one, "x"+c+one+"y", strings.Repeat("a", 30)+one+c)
		}
	}
	for _, size := range []int{30, 31, 32, 33, 34, 64, 256, 4096, 100000} {
		for _, c := range []string{"a", "Z", "_", "$", "7"} {
			l = append(l, strings.Repeat(c, size), "b"+strings.Repeat(c, size-1), strings.Repeat("b", size-1)+c, strings.Repeat("b", size-1)+"-")
		}
	}
	for _, s := range l {
		if got := token.IsIdent(s); got != identOnly.MatchString(s) {
			t.Errorf("IsIdent(%.100q): got %v", s, got)
		}
	}
}

// P6.2

func TestExamples(t *testing.T) {
	wantCut(t, "a // x\n+= 0x1F", []api.Token{name("a", 0), fresh(sign("+=", 7)), num(31, 10), end(14)}, 0, api.OK)
	wantWrong(t, "01", 0)
	wantWrong(t, "1.5", 0)
	wantWrong(t, "a & b", 2)
}

func TestPrograms(t *testing.T) {
	wantCut(t, "", []api.Token{end(0)}, 0, api.OK)
	wantCut(t, "var x=1;", []api.Token{word("var", 0), name("x", 4), sign("=", 5), num(1, 6), sign(";", 7), end(8)}, 0, api.OK)
	wantCut(t, "db.put('a',{x:1})", []api.Token{
		name("db", 0), sign(".", 2), name("put", 3), sign("(", 6), text("\x00a", 7), sign(",", 10), sign("{", 11), name("x", 12), sign(":", 13), num(1, 14), sign("}", 15), sign(")", 16), end(17),
	}, 0, api.OK)
	wantCut(t, "a\r\n++\nb", []api.Token{name("a", 0), fresh(sign("++", 3)), fresh(name("b", 6)), end(7)}, 0, api.OK)
	wantCut(t, "return/*\n*/x\n", []api.Token{word("return", 0), fresh(name("x", 11)), fresh(end(13))}, 0, api.OK)
	wantCut(t, "a===b!==c!=!d", []api.Token{name("a", 0), sign("===", 1), name("b", 4), sign("!==", 5), name("c", 8), sign("!=", 9), sign("!", 11), name("d", 12), end(13)}, 0, api.OK)
	wantCut(t, "x/ /y//=", []api.Token{name("x", 0), sign("/", 1), sign("/", 3), name("y", 4), end(8)}, 0, api.OK)
	wantCut(t, "typeof\"s\"in void 0", []api.Token{word("typeof", 0), text("\x00s", 6), word("in", 9), word("void", 12), num(0, 17), end(18)}, 0, api.OK)
}

func TestCutOfLong(t *testing.T) {
	for _, p := range []string{" ", "\n", "a ", "; ", "a+", "1,", "''", "/**/", "//", "'", "\"x", "/*", "&", "\xff", "a", "0", "9", "0x0"} {
		for _, size := range []int{4094, 4095, 4096} {
			wantSame(t, strings.Repeat(p, size)[:size])
		}
		for _, size := range []int{4097, 4098, 5000, 1 << 20} {
			wantCut(t, strings.Repeat(p, size)[:size], nil, 0, api.ErrLong)
		}
	}
	semicolons, _, e := token.Cut(strings.Repeat(";", 4096))
	if len(semicolons) != 4097 || e != api.OK {
		t.Errorf("4096 semicolons: got %d tokens, %d", len(semicolons), e)
	}
}

func TestWhiteSpace(t *testing.T) {
	blanks := 0
	for b := range 256 {
		c := string([]byte{byte(b)})
		wantSame(t, c)
		wantSame(t, "a"+c+"b")
		wantSame(t, c+"a"+c)
		wantSame(t, "//"+c+"a")
		wantSame(t, "/*"+c+"*/a")
		wantSame(t, "a//"+c)
		if l, _, e := token.Cut(c); e == api.OK && len(l) == 1 {
			blanks++
		}
	}
	if blanks != 6 {
		t.Errorf("%d bytes are white space", blanks)
	}
	for _, s := range []string{" ", "\t", "\v", "\f", "  \t ", "/**/", "/***/", "/*/*/", "/* // */", "/*'*/", "/*é\x00\xff*/", "/*a*//*b*/"} {
		wantCut(t, "a"+s+"b", []api.Token{name("a", 0), name("b", 1+len(s)), end(2 + len(s))}, 0, api.OK)
		wantCut(t, s, []api.Token{end(len(s))}, 0, api.OK)
		wantCut(t, s+"b", []api.Token{name("b", len(s)), end(1 + len(s))}, 0, api.OK)
	}
	for _, s := range []string{"\n", "\r", "\r\n", " \n", "\n ", "/*\n*/", "/*\r*/", "/*\n*/ ", " /**//*\n*//**/", "//\n", "//x\r", "// /*\n", "//é\xff\n", "//\n//\n", "//\\\n", "/*//*/\n"} {
		wantCut(t, "a"+s+"b", []api.Token{name("a", 0), fresh(name("b", 1+len(s))), end(2 + len(s))}, 0, api.OK)
		wantCut(t, s, []api.Token{fresh(end(len(s)))}, 0, api.OK)
		wantCut(t, "a"+s, []api.Token{name("a", 0), fresh(end(1 + len(s)))}, 0, api.OK)
		wantCut(t, s+"b c", []api.Token{fresh(name("b", len(s))), name("c", 2+len(s)), end(3 + len(s))}, 0, api.OK)
	}
	for _, s := range []string{"//", "//x", "// */", "///*", "// a b", "//'", "//\xff", "//\t", "//\u2028b"} {
		wantCut(t, "a"+s, []api.Token{name("a", 0), end(1 + len(s))}, 0, api.OK)
	}
	// No line ends in white space, though the literal has a line feed.
	wantCut(t, "'\\\n'a", []api.Token{text("", 0), name("a", 4), end(5)}, 0, api.OK)
}

func TestCommentWithoutEnd(t *testing.T) {
	for _, s := range []string{"/*", "/*/", "/* *", "/* * /", "/*\n", "/*//", "/*'*'", "/* /*", "/*\xff"} {
		wantWrong(t, s, 0)
		wantWrong(t, "a "+s, 2)
		wantWrong(t, "a"+s, 1)
		wantWrong(t, "/**/\n"+s, 5)
		wantWrong(t, "//"+s+"\n"+s, 3+len(s))
	}
	wantCut(t, "'/*'", []api.Token{text("\x00/\x00*", 0), end(4)}, 0, api.OK)
	wantCut(t, "*/", []api.Token{sign("*", 0), sign("/", 1), end(2)}, 0, api.OK)
	wantCut(t, "/**/*/", []api.Token{sign("*", 4), sign("/", 5), end(6)}, 0, api.OK)
}

func TestNames(t *testing.T) {
	for w := range isWord {
		wantOne(t, w, word(w, 0))
		for _, s := range []string{w + "s", "_" + w, w + "1", w + "$", strings.ToUpper(w), w + "in"} {
			wantOne(t, s, name(s, 0))
		}
	}
	for _, s := range []string{"a", "Z", "_", "$", "$_", "x1", "undefined", "of", "eval", "a0x", "aZ09_$", strings.Repeat("a", 31), strings.Repeat("$", 32), "b" + strings.Repeat("9", 31)} {
		wantOne(t, s, name(s, 0))
	}
	for size := 25; size < 45; size++ {
		for _, c := range []string{"a", "Z", "_", "$"} {
			wantSame(t, strings.Repeat(c, size))
			wantSame(t, "; "+c+strings.Repeat("0", size-1)+" ;")
		}
	}
	wantWrong(t, strings.Repeat("a", 33), 0)
	wantWrong(t, "in "+strings.Repeat("a", 33)+" in", 3)
	wantWrong(t, strings.Repeat("in", 17), 0)
	wantWrong(t, "a\xc3\xa9", 1)
	wantWrong(t, `a\u0061`, 1)
	wantWrong(t, "a#", 1)
	wantWrong(t, "@a", 0)
	wantWrong(t, "a\x00", 1)
}

func TestNumbers(t *testing.T) {
	zeros := strings.Repeat("0", 4000)
	for s, n := range map[string]int64{
		"0": 0, "1": 1, "9": 9, "10": 10, "300": 300, "9007199254740991": api.MaxSafe, "9007199254740990": api.MaxSafe - 1,
		"0x0": 0, "0X0": 0, "0xf": 15, "0XF": 15, "0x1F": 31, "0xaBcDeF": 0xabcdef, "0x0123456789": 0x123456789, "0x1fffffffffffff": api.MaxSafe, "0X1FFFFFFFFFFFFF": api.MaxSafe,
		"0x001fffffffffffff": api.MaxSafe, "0x" + zeros: 0, "0x" + zeros + "1fffffffffffff": api.MaxSafe, "0x0e1": 0xe1, "0x00": 0, "0x01": 1,
	} {
		wantOne(t, s, num(n, 0))
		wantCut(t, s+" -"+s[:1], []api.Token{num(n, 0), sign("-", len(s)+1), num(int64(s[0]-'0'), len(s)+2), end(len(s) + 3)}, 0, api.OK)
	}
	for _, s := range []string{
		"9007199254740992", "9007199254740993", "9999999999999999", "10000000000000000", "18446744073709551615", "18446744073709551616", "18446744073709551617", "36893488147419103232", "1" + zeros, strings.Repeat("9", 4000),
		"0x20000000000000", "0x1fffffffffffff0", "0xffffffffffffffff", "0x10000000000000000", "0x10000000000000001", "0x" + zeros + "20000000000000", "0x1" + zeros,
		"00", "01", "08", "0a", "0x", "0X", "0xg", "0xG", "0x_1", "0x.1", "0x x", "0b1", "0o7", "0_1", "1_000", "0_", "0$", "1a", "1$", "1_", "9z", "1Z", "1e5", "1x1", "10x1", "00x1",
		"1.", "1.5", "0.", "0.5", "0x1.", "0x1.5", "1..x", "1.x", "0x1g", "0xfz", "0xf_", "0xf$", "1in", "0x1fn", "9007199254740992.", "1n",
	} {
		wantWrong(t, s, 0)
		wantWrong(t, "  "+s+" ", 2)
		wantWrong(t, "a="+s+";", 2)
	}
	wantCut(t, "1 .5", []api.Token{num(1, 0), sign(".", 2), num(5, 3), end(4)}, 0, api.OK)
	wantCut(t, "1'a'", []api.Token{num(1, 0), text("\x00a", 1), end(4)}, 0, api.OK)
	wantCut(t, "0x1/**/x", []api.Token{num(1, 0), name("x", 7), end(8)}, 0, api.OK)
	wantCut(t, "-1", []api.Token{sign("-", 0), num(1, 1), end(2)}, 0, api.OK)
	wantWrong(t, "1\xff", 1)
	wantWrong(t, "1#", 1)
}

func TestStuckToNumbers(t *testing.T) {
	for b := range 256 {
		c := string([]byte{byte(b)})
		for _, d := range []string{"0", "1", "9", "12", "0x", "0xA", "0X0f", "9007199254740991", "0x1fffffffffffff"} {
			wantSame(t, d+c)
			wantSame(t, d+c+"1")
			wantSame(t, "a "+d+c+" ")
		}
		wantSame(t, "0"+c+"7")
		wantSame(t, "0x"+c+"7")
	}
	// The numbers around each power of two, in both ways.
	for i := range 70 {
		for d := int64(-2); d <= 2; d++ {
			n := new(big.Int).Lsh(big.NewInt(1), uint(i))
			n.Add(n, big.NewInt(d))
			if n.Sign() >= 0 {
				wantSame(t, n.Text(10))
				wantSame(t, "0x"+n.Text(16))
				wantSame(t, "0X00"+strings.ToUpper(n.Text(16)))
			}
		}
	}
}

func TestTexts(t *testing.T) {
	for s, u := range map[string]string{
		`''`: "", `""`: "", `'a'`: "\x00a", `"a"`: "\x00a", `"'"`: "\x00'", `'"'`: "\x00\"", `'\''`: "\x00'", `"\u1234"`: "\x12\x34", `'\x41b'`: "\x00A\x00b", `'\n\0'`: "\x00\n\x00\x00",
		`"//"`: "\x00/\x00/", `"/*"`: "\x00/\x00*", "'\\\n'": "", `'in'`: "\x00i\x00n",
	} {
		wantOne(t, s, text(u, 0))
		wantCut(t, s+s, []api.Token{text(u, 0), text(u, len(s)), end(2 * len(s))}, 0, api.OK)
		wantCut(t, "x"+s+"x", []api.Token{name("x", 0), text(u, 1), name("x", 1+len(s)), end(2 + len(s))}, 0, api.OK)
		wantCut(t, s+"1", []api.Token{text(u, 0), num(1, len(s)), end(1 + len(s))}, 0, api.OK)
	}
	for _, s := range []string{`'`, `"`, `'a`, `"a'`, `'a"`, "'a\n'", "\"\r\"", `"é"`, `'\1'`, `'\00'`, `'\x4'`, `'\xg0'`, `'\u123'`, `'\`, `'\'`, "'\\\r'", "'\xff'", "'\\\xff'"} {
		wantWrong(t, s, 0)
		wantWrong(t, "  "+s, 2)
		wantWrong(t, "a\n"+s, 2)
		wantWrong(t, "'b'"+s, 3)
	}
	wantWrong(t, "`a`", 0)
}

func TestSigns(t *testing.T) {
	all := strings.Fields(signs)
	if len(all) != 35 {
		t.Fatalf("the list has %d punctuators", len(all))
	}
	for _, p := range all {
		wantOne(t, p, sign(p, 0))
		wantCut(t, "a"+p+" b", []api.Token{name("a", 0), sign(p, 1), name("b", 2+len(p)), end(3 + len(p))}, 0, api.OK)
		for _, q := range all {
			wantSame(t, p+q)
			wantSame(t, p+q+p)
			wantCut(t, p+" "+q, []api.Token{sign(p, 0), sign(q, len(p)+1), end(len(p) + len(q) + 1)}, 0, api.OK)
		}
	}
	for _, x := range []struct {
		src  string
		want []string
	}{
		{"<<", []string{"<", "<"}}, {">>>", []string{">", ">", ">"}}, {">>=", []string{">", ">="}}, {"=>", []string{"=", ">"}}, {"**", []string{"*", "*"}}, {"**=", []string{"*", "*="}},
		{"====", []string{"===", "="}}, {"=====", []string{"===", "=="}}, {"!===", []string{"!==", "="}}, {"!!=", []string{"!", "!="}}, {"!=!==", []string{"!=", "!=="}}, {"<==", []string{"<=", "="}},
		{"+++", []string{"++", "+"}}, {"---", []string{"--", "-"}}, {"+-+", []string{"+", "-", "+"}}, {"++=", []string{"++", "="}}, {"&&&&", []string{"&&", "&&"}}, {"||=", []string{"||", "="}},
		{"?.", []string{"?", "."}}, {"??", []string{"?", "?"}}, {"...", []string{".", ".", "."}}, {"%==", []string{"%=", "="}}, {"/=/", []string{"/=", "/"}}, {"::", []string{":", ":"}}, {"-=-", []string{"-=", "-"}},
	} {
		var want []api.Token
		at := 0
		for _, p := range x.want {
			want = append(want, sign(p, at))
			at += len(p)
		}
		wantCut(t, x.src, append(want, end(at)), 0, api.OK)
	}
	for _, s := range []string{"&", "|", "~", "^", "@", "#", "\\", "`", "\x00", "\x7f", "\x80", "\xff", "é", "\u00a0", "\ufeff", "&=", "|=", "^=", "~a", "& &", "| |"} {
		wantWrong(t, s, 0)
		wantWrong(t, "a "+s+" b", 2)
	}
	wantWrong(t, "&&&", 2)
	wantWrong(t, "|||", 2)
	wantWrong(t, "a&", 1)
}

func TestCutOfAllShort(t *testing.T) {
	errors := map[api.Errno]int{}
	for _, s := range joined(strings.Split("a x . 0 7 ' \" \\ / * = & ! + \n \t", " "), 4) {
		errors[wantSame(t, s)]++
	}
	for _, s := range joined([]string{"/", "*", "\n", "a", " ", "'"}, 6) {
		errors[wantSame(t, s)]++
	}
	for _, s := range joined([]string{"0", "x", "X", "f", "g", "1", "."}, 5) {
		errors[wantSame(t, s)]++
	}
	for _, s := range joined([]string{"=", "!", "<", ">", "+", "-", "&", "|", "/", "%"}, 4) {
		errors[wantSame(t, s)]++
	}
	if errors[api.OK] < 10000 || errors[api.ErrToken] < 10000 {
		t.Errorf("the sources are too much alike: %v", errors)
	}
}

// pieces are what sources are made of, most of them right.
func pieces() []string {
	l := strings.Fields(words + " " + signs)
	l = append(l, " ", " ", " ", "\n", "\r", "\t", "\v", "//", "// x\n", "/**/", "/* a */", "/*\n*/", "/* // */", "a", "b1", "$", "_x", "constructor", strings.Repeat("n", 20),
		"0", "1", "10", "42", "9007199254740991", "0x1F", "0X0", "''", "'a'", `"b c"`, `"\u00e9"`, `'\''`, "'\\\n'", "'//'", "'/*'")
	return l
}

// odd are pieces of which most make a source wrong.
var odd = []string{"&", "|", "#", "\x00", "é", "'", "\"", "\\", "/*", "*/", "1.5", "01", "0x", "9007199254740992", "3a", "0xg", "'\\x'", "\xff", strings.Repeat("w", 16)}

// random is a source of pieces, with a blank behind each, or without.
func random(r *rand.Rand, most int) string {
	all := pieces()
	var b strings.Builder
	for range r.IntN(most) {
		b.WriteString(all[r.IntN(len(all))])
		if r.IntN(3) > 0 {
			b.WriteByte(' ')
		}
		if r.IntN(60) == 0 {
			b.WriteString(odd[r.IntN(len(odd))])
		}
	}
	return b.String()
}

func TestCutOfRandom(t *testing.T) {
	r := rand.New(rand.NewPCG(1, 2))
	errors := map[api.Errno]int{}
	for range 30000 {
		s := random(r, 30)
		errors[wantSame(t, s)]++
		if s == "" {
			continue
		}
		b, at := []byte(s), r.IntN(len(s))
		switch r.IntN(3) {
		case 0:
			b[at] = byte(r.IntN(256))
		case 1:
			b = slices.Insert(b, at, byte(r.IntN(128)))
		case 2:
			b = slices.Delete(b, at, at+1)
		}
		errors[wantSame(t, string(b))]++
	}
	for range 100 {
		errors[wantSame(t, random(r, 1500))]++
	}
	if errors[api.OK] < 5000 || errors[api.ErrToken] < 5000 {
		t.Errorf("the sources are too much alike: %v", errors)
	}
}

func TestPrefixes(t *testing.T) {
	src := "var a = {x: 0x1F, 'y\\'z': \"\\u0041\"}; // b\nfor (i in a) { /* c\n*/ if (a[i] !== 10 && !b) throw i++ % 2 / 3; }"
	if e := wantSame(t, src); e != api.OK {
		t.Errorf("got %d", e)
	}
	for i := range len(src) {
		wantSame(t, src[:i])
		wantSame(t, src[i:])
	}
}

// P6.3

// written has the tokens with a blank behind each.
func written(t *testing.T, l []api.Token) string {
	t.Helper()
	var b strings.Builder
	for _, x := range l {
		switch x.Kind {
		case api.TEnd:
			continue
		case api.TNum:
			b.WriteString(big.NewInt(x.Num).String())
		case api.TStr:
			s, e := units.Quote(x.Text)
			if e != api.OK {
				t.Fatalf("%q is no string of units", x.Text)
			}
			b.WriteString(s)
		default:
			b.WriteString(x.Text)
		}
		b.WriteByte(' ')
	}
	return b.String()
}

func TestWrittenTokens(t *testing.T) {
	r := rand.New(rand.NewPCG(3, 4))
	count := 0
	for range 20000 {
		l, _, e := token.Cut(random(r, 20))
		if e != api.OK {
			continue
		}
		count += len(l)
		again, at, e := token.Cut(written(t, l))
		if at != 0 || e != api.OK || len(again) != len(l) {
			t.Fatalf("%v was written and split as %v, %d, %d", l, again, at, e)
		}
		for i := range l {
			if l[i].At, l[i].Fresh = again[i].At, false; l[i] != again[i] {
				t.Fatalf("%v was written and split as %v", l[i], again[i])
			}
		}
	}
	if count < 50000 {
		t.Errorf("only %d tokens were written", count)
	}
}

func TestWrittenPairs(t *testing.T) {
	var one []api.Token
	for _, s := range append(pieces(), "0x1fffffffffffff", `"\n\"\\"`) {
		if l, _, e := token.Cut(s); e == api.OK && len(l) == 2 {
			one = append(one, l[0])
		}
	}
	for _, x := range one {
		for _, y := range one {
			src := written(t, []api.Token{x, y})
			first := len(written(t, []api.Token{x}))
			y.At = first
			wantCut(t, src, []api.Token{x, y, end(len(src))}, 0, api.OK)
		}
	}
	if len(one) < 90 {
		t.Errorf("only %d tokens were held against each other", len(one))
	}
}

// R2

func TestResultsShareNothing(t *testing.T) {
	src := strings.Clone("var name_a = 'some text' + \"\" ; if (name_a === 10) { name_a += 'some text' }")
	first, _, e1 := token.Cut(src)
	second, _, e2 := token.Cut(src)
	if e1 != api.OK || e2 != api.OK {
		t.Fatalf("got %d, %d", e1, e2)
	}
	taken := map[uintptr]bool{}
	all := []string{src}
	for i := range first {
		all = append(all, first[i].Text, second[i].Text)
	}
	for _, s := range all {
		start := uintptr(unsafe.Pointer(unsafe.StringData(s)))
		for i := range len(s) {
			if taken[start+uintptr(i)] {
				t.Fatalf("%q shares memory", s)
			}
			taken[start+uintptr(i)] = true
		}
	}
	was := slices.Clone(second)
	for i := range first {
		first[i] = num(7, 7)
	}
	_ = append(first, num(1, 1))
	third, _, _ := token.Cut(src)
	if !slices.Equal(second, was) || !slices.Equal(third, was) {
		t.Errorf("tokens changed with others: %v, %v", second, third)
	}
}
