package units_test

import (
	"fmt"
	"math"
	"regexp"
	"strconv"
	"strings"
	"testing"

	"credenza/api"
	"credenza/units"
)

// of makes a string of units without the package's help.
func of(l ...int) string {
	b := make([]byte, 0, 2*len(l))
	for _, x := range l {
		b = append(b, byte(x/256), byte(x%256))
	}
	return string(b)
}

// wide makes a string of units of a text whose bytes are the units.
func wide(s string) string {
	l := make([]int, len(s))
	for i := range l {
		l[i] = int(s[i])
	}
	return of(l...)
}

// words returns all lists of at most most elements of letters.
func words[T any](letters []T, most int) [][]T {
	all := [][]T{{}}
	for first := 0; most > 0; most-- {
		end := len(all)
		for _, w := range all[first:end] {
			for _, x := range letters {
				all = append(all, append(append([]T{}, w...), x))
			}
		}
		first = end
	}
	return all
}

// joined returns all texts of at most most letters.
func joined(letters string, most int) []string {
	var all []string
	for _, w := range words([]byte(letters), most) {
		all = append(all, string(w))
	}
	return all
}

// extremes are indices around a string of n units, and those farthest from it.
func extremes(n int) []int {
	l := []int{math.MinInt, math.MinInt + 1, math.MinInt / 2, math.MaxInt / 2, math.MaxInt/2 + 1, math.MaxInt - 1, math.MaxInt}
	for i := -3; i <= n+3; i++ {
		l = append(l, i)
	}
	return l
}

// P1.1

func TestCheckAndLen(t *testing.T) {
	for n := range 9 {
		u := strings.Repeat("\xff", n)
		if got := units.Check(u); got != (n%2 == 0) {
			t.Errorf("Check of %d bytes: got %v", n, got)
		}
		if got := units.Len(u); got != n/2 {
			t.Errorf("Len of %d bytes: got %d", n, got)
		}
	}
}

func TestAt(t *testing.T) {
	l := []int{0, 97, 255, 256, 0x1234, 0xd800, 65535}
	for _, tail := range []string{"", "\x00", "\xff"} {
		u := of(l...) + tail
		for _, i := range extremes(len(l)) {
			want := -1
			if i >= 0 && i < len(l) {
				want = l[i]
			}
			if got := units.At(u, i); got != want {
				t.Errorf("At(%q, %d): got %d, want %d", u, i, got, want)
			}
		}
	}
	for _, u := range []string{"", "a"} {
		for _, i := range extremes(0) {
			if got := units.At(u, i); got != -1 {
				t.Errorf("At(%q, %d): got %d", u, i, got)
			}
		}
	}
}

func TestCut(t *testing.T) {
	for n := range 5 {
		l := []int{97, 0x0100, 65535, 0}[:n]
		for _, tail := range []string{"", "\x61"} {
			for _, from := range extremes(n) {
				for _, to := range extremes(n) {
					var want []int
					for i, x := range l {
						if from <= i && i < to {
							want = append(want, x)
						}
					}
					if got := units.Cut(of(l...)+tail, from, to); got != of(want...) {
						t.Errorf("Cut of %d units and %q from %d to %d: got %q", n, tail, from, to, got)
					}
				}
			}
		}
	}
}

// P1.2

func TestOf(t *testing.T) {
	if got, e := units.Of("ab"); got != "\x00a\x00b" || e != api.OK {
		t.Errorf("got %q, %d", got, e)
	}
	if got, e := units.Of(""); got != "" || e != api.OK {
		t.Errorf("got %q, %d", got, e)
	}
	for i := range 256 {
		for _, s := range []string{string([]byte{byte(i)}), "ab" + string([]byte{byte(i)}), string([]byte{byte(i)}) + "ab"} {
			want, wantE := wide(s), api.OK
			if i > 127 {
				want, wantE = "", api.ErrForm
			}
			if got, e := units.Of(s); got != want || e != wantE {
				t.Errorf("Of(%q): got %q, %d", s, got, e)
			}
		}
	}
}

// findByUnits is Find by its definition.
func findByUnits(u, v []int, from int) int {
	for i := 0; i <= len(u)-len(v); i++ {
		if i >= from && of(u[i:i+len(v)]...) == of(v...) {
			return i
		}
	}
	return -1
}

func TestFind(t *testing.T) {
	// The units share bytes, so that bytes between two units look like another one.
	all := words([]int{1, 256, 257}, 5)
	for _, u := range all {
		for _, v := range all {
			if len(v) > 3 {
				break
			}
			for from := -1; from <= len(u)+1; from++ {
				want := findByUnits(u, v, from)
				if got := units.Find(of(u...), of(v...), from); got != want {
					t.Fatalf("Find(%v, %v, %d): got %d, want %d", u, v, from, got, want)
				}
			}
		}
	}
}

func TestFindOfNothing(t *testing.T) {
	for _, from := range extremes(3) {
		want := max(from, 0)
		if from > 3 {
			want = -1
		}
		for _, u := range []string{wide("abc"), wide("abc") + "d"} {
			for _, v := range []string{"", "b"} {
				if got := units.Find(u, v, from); got != want {
					t.Errorf("Find(%q, %q, %d): got %d, want %d", u, v, from, got, want)
				}
			}
		}
	}
}

func TestFindOfNoUnits(t *testing.T) {
	for _, x := range []struct {
		u, v string
		want int
	}{
		{wide("ab") + "\x00", wide("b"), 1},
		{wide("ab") + "\x00", wide("b") + "\x00", 1},
		{wide("ab"), wide("b") + "\x00", 1},
		{wide("ab") + "\x00", wide("b\x00"), -1},
		{"\x00a\x00", "\x00a\x00b", -1},
		{"\x00", "\x00", 0},
		{"\x00", "\x00a", -1},
	} {
		if got := units.Find(x.u, x.v, 0); got != x.want {
			t.Errorf("Find(%q, %q): got %d, want %d", x.u, x.v, got, x.want)
		}
	}
	for _, from := range extremes(1) {
		if got := units.Find("\x00a", "\x00a\x00b\x00c", from); got != -1 {
			t.Errorf("from %d: got %d", from, got)
		}
	}
}

// P1.3

func TestIndex(t *testing.T) {
	form := regexp.MustCompile(`^(0|[1-9][0-9]{0,8})$`)
	l := joined("019a/:", 5)
	for n := range 12 {
		l = append(l, strings.Repeat("9", n), "1"+strings.Repeat("0", n), strings.Repeat("0", n), "0"+strings.Repeat("7", n))
	}
	l = append(l, "123456789", "-1", "+1", " 1", "1 ", "0x1", "1e3", "1.0", "1_0", "9223372036854775808", "18446744073709551617")
	for _, s := range l {
		var want int
		is := form.MatchString(s)
		if is {
			want, _ = strconv.Atoi(s)
		}
		for _, tail := range []string{"", "\x00", "1"} {
			if got, ok := units.Index(wide(s) + tail); got != int64(want) || ok != is {
				t.Errorf("Index(%q) with %q behind it: got %d, %v", s, tail, got, ok)
			}
		}
	}
}

func TestIndexOfOneUnit(t *testing.T) {
	for x := range 65536 {
		for _, l := range [][]int{{x}, {'1', x}} {
			got, ok := units.Index(of(l...))
			is := x >= '0' && x <= '9'
			want := 0
			if is {
				want = x - '0'
				if len(l) == 2 {
					want += 10
				}
			}
			if ok != is || got != int64(want) {
				t.Errorf("Index of %v: got %d, %v", l, got, ok)
			}
		}
	}
}

// P1.4

// quoted is what Quote has to write for a unit.
func quoted(x int) string {
	switch x {
	case 34:
		return `\"`
	case 92:
		return `\\`
	case 8:
		return `\b`
	case 9:
		return `\t`
	case 10:
		return `\n`
	case 12:
		return `\f`
	case 13:
		return `\r`
	}
	if x < 32 || x > 126 {
		return fmt.Sprintf(`\u%04x`, x)
	}
	return string(rune(x))
}

func TestQuote(t *testing.T) {
	for x := range 65536 {
		want := `"` + quoted(x) + `"`
		if got, e := units.Quote(of(x)); got != want || e != api.OK {
			t.Errorf("Quote of %d: got %q, %d", x, got, e)
		}
	}
	for _, x := range []struct{ u, want string }{
		{"", `""`},
		{of(34, 10, 233), `"\"\n\u00e9"`},
		{of('a', 39, 11, 0, 127, 0xabcd, 0xd83d, 0xde00), `"a'\u000b\u0000\u007f\uabcd\ud83d\ude00"`},
	} {
		if got, e := units.Quote(x.u); got != x.want || e != api.OK {
			t.Errorf("Quote(%q): got %q, %d", x.u, got, e)
		}
	}
	for _, u := range []string{"a", "\x00", "\x00a\x00"} {
		if got, e := units.Quote(u); got != "" || e != api.ErrForm {
			t.Errorf("Quote(%q): got %q, %d", u, got, e)
		}
	}
}

// P1.5

// The literals that there are, and what stands in them, as expressions.
const part = `\\x[0-9a-fA-F]{2}|\\u[0-9a-fA-F]{4}|\\0|\\[^0-9xu\r\x80-\xff]`

var (
	single = literal(`'`)
	double = literal(`"`)
	parts  = regexp.MustCompile(`(?s)` + part + `|.`)
)

// literal matches a literal of that quote, but for a digit behind \0, which an expression of Go can't forbid.
func literal(quote string) *regexp.Regexp {
	return regexp.MustCompile(`(?s)^` + quote + `((?:` + part + `|[^\\\r\n` + quote + `])*)` + quote)
}

// readByForm is Read by the expressions.
func readByForm(s string) (string, int, api.Errno) {
	m := single.FindStringSubmatch(s)
	if m == nil {
		m = double.FindStringSubmatch(s)
	}
	if m == nil {
		return "", 0, api.ErrForm
	}
	var u []int
	ps := parts.FindAllString(m[1], -1)
	for i, p := range ps {
		if p[0] >= 128 || len(p) > 1 && p[1] >= 128 {
			return "", 0, api.ErrForm
		}
		if p == `\0` && i+1 < len(ps) && len(ps[i+1]) == 1 && strings.Contains("0123456789", ps[i+1]) {
			return "", 0, api.ErrForm
		}
		if p == "\\\n" {
			continue
		}
		u = append(u, denoted(p))
	}
	return of(u...), len(m[0]), api.OK
}

// denoted is the unit that a byte or an escape sequence stands for.
func denoted(p string) int {
	if len(p) == 1 {
		return int(p[0])
	}
	named := map[byte]int{'n': 10, 't': 9, 'r': 13, 'b': 8, 'f': 12, 'v': 11, '0': 0}
	if x, ok := named[p[1]]; ok {
		return x
	}
	if len(p) == 2 {
		return int(p[1])
	}
	x, _ := strconv.ParseInt(p[2:], 16, 32)
	return int(x)
}

func wantRead(t *testing.T, s, u string, n int, e api.Errno) {
	t.Helper()
	gotU, gotN, gotE := units.Read(s)
	if gotU != u || gotN != n || gotE != e {
		t.Errorf("Read(%q): got %q, %d, %d, want %q, %d, %d", s, gotU, gotN, gotE, u, n, e)
	}
}

func TestReadOfEachByte(t *testing.T) {
	for x := range 256 {
		c := string([]byte{byte(x)})
		for _, quote := range []string{"'", `"`} {
			switch {
			case c == quote:
				wantRead(t, quote+c+quote, "", 2, api.OK)
			case c == "\\" || c == "\n" || c == "\r" || x > 127:
				wantRead(t, quote+c+quote, "", 0, api.ErrForm)
			default:
				wantRead(t, quote+c+quote, of(x), 3, api.OK)
			}
		}
		if c != "'" && c != `"` {
			wantRead(t, c+"a"+c, "", 0, api.ErrForm)
		}
	}
}

func TestReadOfEachEscape(t *testing.T) {
	named := map[byte]int{'n': 10, 't': 9, 'r': 13, 'b': 8, 'f': 12, 'v': 11, '0': 0}
	for x := range 256 {
		c := byte(x)
		s := `'\` + string([]byte{c}) + `'`
		unit, is := named[c]
		switch {
		case is:
			wantRead(t, s, of(unit), 4, api.OK)
		case c == '\n':
			wantRead(t, s, "", 4, api.OK)
		case c >= '1' && c <= '9' || c == 'x' || c == 'u' || c == '\r' || c > 127:
			wantRead(t, s, "", 0, api.ErrForm)
		default:
			wantRead(t, s, of(x), 4, api.OK)
		}
	}
}

func TestReadOfHex(t *testing.T) {
	for x := range 65536 {
		for _, form := range []string{`"\u%04x"`, `"\u%04X"`} {
			wantRead(t, fmt.Sprintf(form, x), of(x), 8, api.OK)
		}
		if x < 256 {
			for _, form := range []string{`'\x%02x'`, `'\x%02X'`} {
				wantRead(t, fmt.Sprintf(form, x), of(x), 6, api.OK)
			}
		}
	}
	for x := range 256 {
		c := string([]byte{byte(x)})
		if strings.Contains("0123456789abcdefABCDEF", c) {
			continue
		}
		for _, s := range []string{`\x` + c + `1`, `\x1` + c, `\u` + c + `111`, `\u1` + c + `11`, `\u11` + c + `1`, `\u111` + c} {
			wantRead(t, `'`+s+`'`, "", 0, api.ErrForm)
			wantRead(t, `"`+s+`"`, "", 0, api.ErrForm)
		}
	}
}

func TestReadOfZero(t *testing.T) {
	for c := byte('0'); c <= '9'; c++ {
		wantRead(t, `'\0`+string(c)+`'`, "", 0, api.ErrForm)
	}
	wantRead(t, `'\0a'`, of(0, 'a'), 5, api.OK)
	wantRead(t, `'\0\0'`, of(0, 0), 6, api.OK)
	wantRead(t, `'\0/:'`, of(0, '/', ':'), 6, api.OK)
	wantRead(t, "'\\0\\\n1'", of(0, '1'), 7, api.OK)
	wantRead(t, `'\0'1`, of(0), 4, api.OK)
}

func TestReadOfWhole(t *testing.T) {
	for _, x := range []struct {
		s, u string
		n    int
	}{
		{`'a\x41' + b`, wide("aA"), 7},
		{`"a'b"`, wide("a'b"), 5},
		{`'a"b'`, wide(`a"b`), 5},
		{`'a\'b'c'`, wide("a'b"), 6},
		{`"a\"b"c"`, wide(`a"b`), 6},
		{`'\\'`, wide(`\`), 4},
		{`'\\''`, wide(`\`), 4},
		{`'\x414'`, wide("A4"), 7},
		{`'\u00e91'`, of(233, '1'), 9},
		{"'a\\\n\\\nb'\n", wide("ab"), 8},
		{"''\x80", "", 2},
		{"''\n", "", 2},
	} {
		wantRead(t, x.s, x.u, x.n, api.OK)
	}
	for _, s := range []string{"", "a", " 'a'", "`a`", `'`, `"`, `'a`, `'a"`, `"a'`, `'\`, `'\'`, `'\\\'`, `'\x`, `'\x4`, `'\u`, `'\u004`, `'\0`, "'a\n'", "'a\r'", "'\\\r\n'", "'\\\n", "'a\x80", "'é'"} {
		wantRead(t, s, "", 0, api.ErrForm)
	}
}

func TestReadOfAllShort(t *testing.T) {
	for _, s := range joined("\\x0n\n\r8'\"", 5) {
		for _, quote := range []string{"'", `"`} {
			u, n, e := readByForm(quote + s)
			wantRead(t, quote+s, u, n, e)
		}
	}
}

// P1.6

func TestQuoteIsRead(t *testing.T) {
	behind := []string{"", `"`, `'`, `\`, "0", "a", "\n", "\x80", ` + "b"`}
	check := func(u string) {
		s, e := units.Quote(u)
		if e != api.OK {
			t.Fatalf("Quote(%q): %d", u, e)
		}
		for _, b := range behind {
			wantRead(t, s+b, u, len(s), api.OK)
		}
	}
	for x := range 65536 {
		check(of(x))
	}
	for _, l := range words([]int{0, 8, 11, 13, 34, 39, 48, 92, 110, 117, 127, 128, 0x2028, 65535}, 3) {
		check(of(l...))
	}
}
