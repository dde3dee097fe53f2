package ops_test

import (
	"math/big"
	"math/rand/v2"
	"slices"
	"strings"
	"testing"

	"credenza/api"
	"credenza/heap"
	"credenza/number"
	"credenza/ops"
)

// The operators by other means: what they come to for things, as the chapter tells
// it, with texts that have no limit till they are whole, and integers of any size.

// number is the number of a thing, or nil.
func (x thing) number() *big.Int {
	switch x.kind {
	case api.Undef:
		return nil
	case api.Text, api.Ref:
		s, e := x.limited()
		if e != api.OK {
			return nil
		}
		n, e := number.Read(s)
		if e != api.OK {
			return nil
		}
		return big.NewInt(n)
	}
	return big.NewInt(x.n) // Null has 0
}

// flat is the primitive of a thing.
func (x thing) flat() (thing, api.Errno) {
	if x.kind != api.Ref {
		return x, api.OK
	}
	_, e := x.limited()
	s, _, _ := x.write()
	return text(s), e
}

// loose is what == comes to for things that are not the same object.
func loose(a, b thing) (bool, api.Errno) {
	if a.kind > b.kind {
		a, b = b, a
	}
	switch {
	case a.kind <= api.Null:
		return b.kind <= api.Null, api.OK
	case a.kind == api.Ref:
		return false, api.OK
	case a.kind == b.kind:
		return a.n == b.n && a.s == b.s, api.OK
	}
	b, e := b.flat()
	if e != api.OK {
		return false, e
	}
	if a.kind == api.Text && b.kind == api.Text {
		return a.s == b.s, api.OK
	}
	m, n := a.number(), b.number()
	return m != nil && n != nil && m.Cmp(n) == 0, api.OK
}

// sum is what + comes to where a text or an object is added.
func sum(a, b thing) (api.Val, api.Errno) {
	s, e := a.limited()
	u, f := b.limited()
	if e != api.OK || f != api.OK || len(s+u) > 2*4096 {
		return api.Val{}, api.ErrRange
	}
	return api.Val{Kind: api.Text, S: s + u}, api.OK
}

// calculated is what an operator of arithmetic comes to.
func calculated(op string, a, b thing) (api.Val, api.Errno) {
	m, n, result := a.number(), b.number(), new(big.Int)
	if m == nil || n == nil || strings.Contains("/%", op) && n.Sign() == 0 {
		return api.Val{}, api.ErrRange
	}
	rest := new(big.Int)
	switch op {
	case "+":
		result.Add(m, n)
	case "-":
		result.Sub(m, n)
	case "*":
		result.Mul(m, n)
	case "/":
		result.QuoRem(m, n, rest)
	case "%":
		result.Rem(m, n)
	}
	if rest.Sign() != 0 || result.CmpAbs(big.NewInt(safe)) > 0 {
		return api.Val{}, api.ErrRange
	}
	return api.Val{Kind: api.Num, N: result.Int64()}, api.OK
}

// compared is what an operator that compares comes to.
func compared(op string, a, b thing) (api.Val, api.Errno) {
	a, e := a.flat()
	b, f := b.flat()
	m, n := a.number(), b.number()
	sign := 0
	switch {
	case e != api.OK || f != api.OK:
		return api.Val{}, api.ErrRange
	case a.kind == api.Text && b.kind == api.Text:
		sign = slices.Compare([]rune(a.s), []rune(b.s))
	case m == nil || n == nil:
		return api.Val{}, api.ErrRange
	default:
		sign = m.Cmp(n)
	}
	return boolean(strings.Contains(map[int]string{-1: "< <=", 0: "<= >=", 1: "> >="}[sign]+" ", op+" ")), api.OK
}

// result is what an operator comes to, where the operands may be the same object.
func result(op string, a, b thing, same bool) (api.Val, api.Errno) {
	switch {
	case op == "==" || op == "!=":
		is, e := loose(a, b)
		if e != api.OK {
			return api.Val{}, e
		}
		return boolean((is || same) == (op == "==")), api.OK
	case op == "===" || op == "!==":
		is, _ := loose(a, b)
		is = same || is && a.kind == b.kind
		return boolean(is == (op == "===")), api.OK
	case strings.Contains("<=>=", op):
		return compared(op, a, b)
	case op == "+" && (a.kind >= api.Text || b.kind >= api.Text):
		return sum(a, b)
	}
	return calculated(op, a, b)
}

func operators() []string {
	return []string{"+", "-", "*", "/", "%", "<", ">", "<=", ">=", "==", "!=", "===", "!=="}
}

// operands are values of each sort, and around each edge.
func operands() []thing {
	l := []thing{undef, null, no, yes}
	for _, n := range []int64{0, 1, 2, 3, 7, 9, 10, 12, 16, 94906265, 94906266, 1 << 26, 1 << 27, safe - 1, safe} {
		l = append(l, num(n), num(-n))
	}
	for _, s := range []string{"", " ", "0", "1", "-1", " 7 ", "+7", "07", "9", "10", "12", "0x10", "a", "b", "A", "aa", "a\x00", "x", "true", "false", "null", "undefined", "NaN", "1.5", "1,2", ",", "9007199254740991", "9007199254740992", "-9007199254740991", "\u00ff", "\u0100", "\uffff", "[object Object]", "[object ]", "function", "Error", "a: b", "object"} {
		l = append(l, text(s))
	}
	for _, n := range []int{2048, 2049, 4084, 4095, 4096, 4097, 5000} {
		l = append(l, long(n), text(strings.Repeat("0", n-1)+"7"))
	}
	return append(l,
		list(), list(num(1)), list(text("1")), list(list(num(7))), list(num(1), num(2)), list(null), list(undef, hole), list(text("a")), list(yes),
		object("Object"), object("Function"), object(""), object("Math"),
		fault(hole, hole), fault(text("a"), text("b")), fault(text(""), num(7)), fault(text(""), text("")),
		list(long(4096)), list(long(4095)), list(long(4096), null), fault(long(4094), hole), fault(long(4094), text("b")), fault(hole, long(5000)),
		nest(num(7), 19, inList), nest(num(7), 20, inList), nest(num(7), 21, inList), nest(text("7"), 20, inName), nest(text("7"), 21, inName), tooLong,
	)
}

// All pairs of operands, each with each operator: what it comes to, and P12.6.
func TestPairs(t *testing.T) {
	l := append(operands(), list(), object("Object"), object("Function"), fault(hole, hole), tooDeep, text("1,2"), list(num(1), num(2)))
	h, v := made(l...)
	before := tell(h)
	for i, a := range l {
		for j, b := range l {
			got := map[string]api.Val{}
			for _, op := range operators() {
				want, wantE := result(op, a, b, i == j)
				x, e := ops.Binary(h, op, v[i], v[j])
				if x != want || e != wantE {
					t.Errorf("%v %s %v: got %.200v, %d, want %.200v, %d", a, op, b, x, e, want, wantE)
				}
				if e == api.OK {
					got[op] = x
				}
			}
			holdConsequences(t, got)
			is, e := ops.Loose(h, v[i], v[j])
			if want, wantE := result("==", a, b, i == j); e != wantE || is != (want.N == 1) {
				t.Errorf("Loose(%v, %v): got %v, %d", a, b, is, e)
			}
			if want, _ := result("===", a, b, i == j); ops.Strict(v[i], v[j]) != (want.N == 1) {
				t.Errorf("Strict(%v, %v): got %v", a, b, want.N == 0)
			}
		}
	}
	if tell(h) != before {
		t.Error("the heap was changed")
	}
}

// holdConsequences asks for P12.6, of what the operators came to that did not fail.
func holdConsequences(t *testing.T, got map[string]api.Val) {
	t.Helper()
	for _, two := range [][2]string{{"==", "!="}, {"===", "!=="}, {"<", ">="}, {">", "<="}} {
		a, isA := got[two[0]]
		b, isB := got[two[1]]
		if isA != isB || isA && a.N+b.N != 1 {
			t.Errorf("%s is %v, and %s is %v", two[0], a, two[1], b)
		}
	}
	if is, ok := got["=="]; ok && got["==="].N > is.N {
		t.Error("=== holds, but == does not")
	}
}

// Each operand with what has one operand: what the functions come to.
func TestEach(t *testing.T) {
	l := operands()
	h, v := made(l...)
	before := tell(h)
	for i, x := range l {
		want, wantE := x.limited()
		if got, e := ops.Text(h, v[i]); got != want || e != wantE {
			t.Errorf("Text(%v): got %.200q, %d", x, got, e)
		}
		n := x.number()
		got, e := ops.Number(h, v[i])
		plus, f := ops.Unary(h, "+", v[i])
		minus, g := ops.Unary(h, "-", v[i])
		if n == nil {
			if got != 0 || e != api.ErrRange || plus != (api.Val{}) || f != api.ErrRange || minus != (api.Val{}) || g != api.ErrRange {
				t.Errorf("Number(%v): got %d, %d, %v, %d, %v, %d", x, got, e, plus, f, minus, g)
			}
		} else if n := n.Int64(); got != n || e != api.OK || plus != num(n).val(h) || f != api.OK || minus != num(-n).val(h) || g != api.OK {
			t.Errorf("Number(%v): got %d, %d, %v, %d, %v, %d", x, got, e, plus, f, minus, g)
		}
		truthy := x.kind == api.Ref || x.n != 0 || x.s != ""
		not, e := ops.Unary(h, "!", v[i])
		if ops.Truthy(v[i]) != truthy || not != boolean(!truthy) || e != api.OK {
			t.Errorf("Truthy(%v): got %v, %v, %d", x, !truthy, not, e)
		}
	}
	if tell(h) != before {
		t.Error("the heap was changed")
	}
}

// Random objects, as operands of each operator, on a heap with no cell left.
func TestPairsAtRandom(t *testing.T) {
	r := rand.New(rand.NewPCG(12, 2))
	for range 3000 {
		a, b := random(r, 3), random(r, 3)
		if r.IntN(4) == 0 {
			b = a
		}
		h, v := made(a, b)
		for h.Take() {
		}
		before := tell(h)
		for _, op := range operators() {
			want, wantE := result(op, a, b, false)
			if got, e := ops.Binary(h, op, v[0], v[1]); got != want || e != wantE {
				t.Fatalf("%v %s %v: got %.200v, %d, want %.200v, %d", a, op, b, got, e, want, wantE)
			}
		}
		if tell(h) != before {
			t.Fatal("the heap was changed")
		}
	}
}

// tell tells all that can be asked of a heap.
func tell(h *heap.Heap) string {
	var b strings.Builder
	add := func(x any) { b.WriteString(show(x)) }
	add(h.Used())
	for n := int64(1); ; n++ {
		v := api.Val{Kind: api.Ref, N: n}
		if h.Proto(v) == (api.Val{Kind: api.Null}) && h.Class(v) == "" && !h.IsOpen(v) {
			return b.String()
		}
		length, _ := h.Len(v)
		add([]any{h.Class(v), h.Proto(v), h.IsOpen(v), length})
		for _, key := range append(h.Keys(v), wide("length")) {
			p, is := h.Own(v, key)
			add([]any{key, p, is})
		}
	}
}
