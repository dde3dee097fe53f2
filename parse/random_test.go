package parse_test

import (
	"math/rand/v2"
	"slices"
	"strconv"
	"strings"
	"testing"

	"credenza/api"
	"credenza/parse"
	"credenza/token"
	"credenza/tree"
	"credenza/units"
)

// alphabet has each word and sign that a rule names, a word that none does, and others.
var alphabet = strings.Fields(`a bc 0 31 "" 'in' break case catch class continue default delete do else false finally
	for function if in instanceof new null return switch this throw true try typeof var void while
	{ } ( ) [ ] . ; , < > <= >= == != === !== + - * / % ++ -- ! && || ? : = += -= *= /= %=`)

// The white space in which no line ends, and in which one does.
var (
	blanks = []string{" ", "  ", "\t", "\v\f", " /**/", " /* ' */", "\t/*//*/ "}
	ends   = []string{"\n", "\r", "\r\n", " \n ", " //\n", " // ;\r", " /*\n*/", " /*\r*/ ", "\n/**/"}
)

// wanted is what Program is to return for a source of these tokens.
func wanted(l []api.Token) (api.Node, int, api.Errno) {
	n, i, ok := read(l)
	if !ok {
		return api.Node{}, l[i].At, api.ErrSyntax
	}
	if tree.Deep(n) > 64 {
		return api.Node{}, 0, api.ErrDeep
	}
	return n, 0, api.OK
}

func wantProgram(t *testing.T, src string, want api.Node, wantAt int, wantE api.Errno) {
	t.Helper()
	got, at, e := parse.Program(src)
	if at != wantAt || e != wantE || !tree.Same(got, want) {
		t.Fatalf("%q: got %v, %d, %d, want %v, %d, %d", src, got, at, e, want, wantAt, wantE)
	}
	if e == api.OK {
		wantText(t, src, got)
	}
}

// wantText wants a tree to be valid, and its text to be parsed as that tree: P8.2.
func wantText(t *testing.T, src string, n api.Node) {
	t.Helper()
	if e := tree.Check(n); e != api.OK {
		t.Fatalf("%q: the tree %v is not valid: %d", src, n, e)
	}
	s, e := tree.Text(n)
	if e == api.ErrLong {
		return
	}
	if m, at, e := parse.Program(s); at != 0 || e != api.OK || !tree.Same(m, n) {
		t.Fatalf("%q: the text %q of %v: got %v, %d, %d", src, s, n, m, at, e)
	}
}

// wantRead holds Program against the rules, and tells the error.
func wantRead(t *testing.T, src string) api.Errno {
	t.Helper()
	l, at, e := token.Cut(src)
	if e != api.OK {
		wantProgram(t, src, api.Node{}, at, e)
		return e
	}
	n, at, e := wanted(l)
	wantProgram(t, src, n, at, e)
	return e
}

// wantNext holds Program against the rules for a source that goes on with one more
// token, and tells what is known then: nil if it cannot follow.
func wantNext(t *testing.T, s *state, src, space, more string) (*state, string) {
	t.Helper()
	l, _, _ := token.Cut(more)
	x := l[0]
	x.At, x.Fresh = len(src+space), space != " "
	src += space + more
	next := s.next(x)
	if next == nil {
		wantProgram(t, src, api.Node{}, x.At, api.ErrSyntax)
		return nil, ""
	}
	if whole := next.next(api.Token{At: len(src)}); whole != nil {
		wantProgram(t, src, whole.made(), 0, api.OK)
	} else {
		wantProgram(t, src, api.Node{}, len(src), api.ErrSyntax)
	}
	return next, src
}

// P8.1

// TestShort: all sources of up to three tokens, of which the last one may be Fresh.
func TestShort(t *testing.T) {
	tries := 0
	var extend func(s *state, src string, left int)
	extend = func(s *state, src string, left int) {
		for _, space := range []string{" ", "\n"} {
			for _, more := range alphabet {
				tries++
				if next, longer := wantNext(t, s, src, space, more); next != nil && left > 1 && space == " " {
					extend(next, longer, left-1)
				}
			}
		}
	}
	extend(begin(), "", 3)
	if tries < 90000 {
		t.Errorf("only %d sources", tries)
	}
}

// TestWalks: random sources to which tokens are added as long as one can follow; many
// others are tried on the way.
func TestWalks(t *testing.T) {
	r := rand.New(rand.NewPCG(8, 1))
	for range 300 {
		s, src := begin(), ""
		most := 500 + r.IntN(1500)
		for tries := 0; tries < most && len(src) < 120; tries++ {
			next, longer := wantNext(t, s, src, pick(r, " ", " ", " ", "\n"), pick(r, alphabet...))
			if next != nil {
				s, src = next, longer
			}
		}
	}
}

// sizes tells for each part of how few tokens, or parts without any, it may consist.
var sizes = func() map[string]int {
	m := map[string]int{}
	for left := range forms {
		m[left] = 1000
	}
	for range forms {
		for left, l := range forms {
			for _, f := range l {
				m[left] = min(m[left], size(m, f))
			}
		}
	}
	return m
}()

func size(m map[string]int, f *form) int {
	n := 0
	for _, part := range f.parts {
		if forms[part] == nil {
			n++
		}
		n += m[part]
	}
	return n
}

// often are those for which the first rule is taken more often than others.
var often = strings.Fields("Items Item E EN A AN Q QN L3 L3N L4 L4N L5 L5N L6 L6N L7 L8 L9 L10")

// writer writes random sources by the rules. They need not be right: a token may be
// taken by another part than the one that it was written for.
type writer struct {
	*rand.Rand
	strings.Builder
	left  int // from 0 on, the shortest rules are taken
	space string
}

func pick[T any](r *rand.Rand, l ...T) T {
	return l[r.IntN(len(l))]
}

func (w *writer) write(part string) {
	if _, known := (look{}).passes(part); known {
		w.space = map[string]string{"~": pick(w.Rand, blanks...), "@": pick(w.Rand, ends...)}[part]
		return
	}
	l := forms[part]
	if l == nil {
		w.token(part)
		return
	}
	w.left--
	f := pick(w.Rand, l...)
	for slices.Contains(f.parts, "never") && w.IntN(10) > 0 {
		f = pick(w.Rand, l...)
	}
	if slices.Contains(often, part) && w.IntN(3) > 0 {
		f = l[0]
	}
	if w.left < 0 {
		f = slices.MinFunc(l, func(f, g *form) int { return size(sizes, f) - size(sizes, g) })
	}
	for _, part := range f.parts {
		w.write(part)
	}
}

func (w *writer) token(terminal string) {
	if w.space == "" {
		w.space = pick(w.Rand, " ", " ", " ", pick(w.Rand, blanks...), pick(w.Rand, ends...))
	}
	w.WriteString(w.space + w.text(terminal))
	w.space = ""
}

// text is one of a terminal's.
func (w *writer) text(terminal string) string {
	if l := sorts[terminal]; l != nil {
		return pick(w.Rand, l...)
	}
	word := pick(w.Rand, "a", "b", "x1", "$", "get", "eval", strings.Repeat("n", 32))
	num := pick(w.Rand, "0", "1", "31", "0x1F", "9007199254740991")
	str := pick(w.Rand, `""`, `'a'`, `"in"`, `'\u002b\x3b'`, `";"`, `"\u2b2b"`, `'{'`)
	switch terminal {
	case "name":
		return word
	case "num":
		return num
	case "str":
		return str
	case "ident":
		return pick(w.Rand, word, "if", "in", "null")
	case "key":
		return pick(w.Rand, word, num, str, "if", "in", "null")
	case "end":
		return ""
	}
	return terminal
}

func random(r *rand.Rand) string {
	w := writer{Rand: r, left: r.IntN(8 << r.IntN(6))}
	w.write("Start")
	return w.String()
}

func TestRandom(t *testing.T) {
	r := rand.New(rand.NewPCG(8, 2))
	count := map[api.Errno]int{}
	for range 3000 {
		count[wantRead(t, random(r))]++
	}
	if count[api.OK] < 2500 || count[api.ErrDeep] < 10 || count[api.ErrSyntax] < 10 {
		t.Errorf("the sources are too much alike: %v", count)
	}
}

// spelled is a source of these tokens, with white space as told for each.
func spelled(l []api.Token, space func(x api.Token) string) string {
	var s strings.Builder
	for _, x := range l {
		s.WriteString(space(x))
		switch x.Kind {
		case api.TNum:
			s.WriteString(strconv.FormatInt(x.Num, 10))
		case api.TStr:
			literal, _ := units.Quote(x.Text)
			s.WriteString(literal)
		default:
			s.WriteString(x.Text)
		}
	}
	return s.String()
}

// plain is the shortest white space that leaves tokens apart.
func plain(x api.Token) string {
	if x.Fresh {
		return "\n"
	}
	return " "
}

// TestMutants: sources that differ from random ones in a token or two.
func TestMutants(t *testing.T) {
	r := rand.New(rand.NewPCG(8, 3))
	count := map[api.Errno]int{}
	for range 1000 {
		l, _, _ := token.Cut(random(r))
		if len(l) > 100 {
			continue
		}
		for range 8 {
			count[wantRead(t, spelled(mutant(r, l), plain))]++
		}
	}
	if count[api.OK] < 2000 || count[api.ErrSyntax] < 3000 {
		t.Errorf("the sources are too much alike: %v", count)
	}
}

func mutant(r *rand.Rand, l []api.Token) []api.Token {
	l = slices.Clone(l)
	for range 1 + r.IntN(2) {
		i, j := r.IntN(len(l)), r.IntN(len(l))
		more, _, _ := token.Cut(pick(r, alphabet...))
		switch r.IntN(6) {
		case 0:
			l = slices.Delete(l, min(i, len(l)-1), min(i+1, len(l)-1))
		case 1:
			l = slices.Insert(l, i, l[j])
		case 2:
			l[i], l[j] = l[j], l[i]
		case 3:
			l[i] = more[0]
		case 4:
			l = slices.Insert(l, i, more[0])
		case 5:
			l[i].Fresh = !l[i].Fresh
		}
	}
	return l
}

// P8.2

// TestSpaces: other white space changes nothing, if lines end in the same places.
func TestSpaces(t *testing.T) {
	r := rand.New(rand.NewPCG(8, 4))
	for range 1000 {
		l, _, _ := token.Cut(random(r))
		if r.IntN(2) == 0 {
			l = mutant(r, l)
		}
		src, other := spelled(l, plain), spelled(l, func(x api.Token) string {
			if x.Fresh {
				return pick(r, ends...)
			}
			return pick(r, blanks...)
		})
		if len(other) > 4096 {
			continue
		}
		n, at, e := parse.Program(src)
		m, otherAt, otherE := parse.Program(other)
		if e != otherE || !tree.Same(n, m) || e == api.ErrSyntax && place(src, at) != place(other, otherAt) {
			t.Fatalf("%q and %q: %v, %d, %d and %v, %d, %d", src, other, n, at, e, m, otherAt, otherE)
		}
	}
}

// place is the index of the token at an offset.
func place(src string, at int) int {
	l, _, _ := token.Cut(src)
	return slices.IndexFunc(l, func(x api.Token) bool { return x.At == at })
}
