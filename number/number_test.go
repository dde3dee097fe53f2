package number_test

import (
	"math"
	"math/big"
	"math/rand/v2"
	"testing"

	"credenza/api"
	"credenza/number"
)

// safe is the greatest number, as the chapter has it.
const safe = 9007199254740991

// operation is a function of two numbers, and what it has to return by integers of
// any size: nil if there is no such number.
type operation struct {
	name string
	do   func(a, b int64) (int64, api.Errno)
	want func(a, b *big.Int) *big.Int
}

func operations() []operation {
	return []operation{
		{"Add", number.Add, func(a, b *big.Int) *big.Int { return new(big.Int).Add(a, b) }},
		{"Sub", number.Sub, func(a, b *big.Int) *big.Int { return new(big.Int).Sub(a, b) }},
		{"Mul", number.Mul, func(a, b *big.Int) *big.Int { return new(big.Int).Mul(a, b) }},
		{"Div", number.Div, func(a, b *big.Int) *big.Int {
			if q, r := divided(a, b); r != nil && r.Sign() == 0 {
				return q
			}
			return nil
		}},
		{"Mod", number.Mod, func(a, b *big.Int) *big.Int {
			_, r := divided(a, b)
			return r
		}},
	}
}

// divided returns the quotient truncated towards 0 and the remainder, by absolute
// values alone; or nothing if b is 0.
func divided(a, b *big.Int) (q, r *big.Int) {
	if b.Sign() == 0 {
		return nil, nil
	}
	q, r = new(big.Int).DivMod(new(big.Int).Abs(a), new(big.Int).Abs(b), new(big.Int))
	if a.Sign()*b.Sign() < 0 {
		q.Neg(q)
	}
	if a.Sign() < 0 {
		r.Neg(r)
	}
	return q, r
}

// isNumber reports whether n, which may be nil, is a number.
func isNumber(n *big.Int) bool {
	return n != nil && n.CmpAbs(big.NewInt(safe)) <= 0
}

// values are integers small and great, around each power of two and each edge, and
// divisors of the greatest number; many of them are no numbers.
func values() []int64 {
	l := []int64{math.MinInt64, math.MinInt64 + 1, math.MaxInt64, math.MaxInt64 - 1}
	add := func(around int64, most int64) {
		for d := -most; d <= most; d++ {
			l = append(l, around+d, -around-d)
		}
	}
	add(6, 6)
	for i := 4; i < 63; i++ {
		add(1<<i, 1)
	}
	add(safe, 3)
	add(2*safe, 1)
	// The root of the greatest number lies behind 94906265.
	add(94906265, 2)
	for _, x := range []int64{6361, 69431, 20394401, 6361 * 69431, 6361 * 20394401, 69431 * 20394401} {
		add(x, 1)
	}
	return l
}

func check(t *testing.T, op operation, a, b int64) {
	t.Helper()
	var want int64
	wantE := api.ErrRange
	x, y := big.NewInt(a), big.NewInt(b)
	if isNumber(x) && isNumber(y) {
		if n := op.want(x, y); isNumber(n) {
			want, wantE = n.Int64(), api.OK
		}
	}
	if got, e := op.do(a, b); got != want || e != wantE {
		t.Errorf("%s(%d, %d): got %d, %d, want %d, %d", op.name, a, b, got, e, want, wantE)
	}
}

// P10.1

func TestCheck(t *testing.T) {
	for _, x := range []struct {
		n int64
		e api.Errno
	}{
		{0, api.OK}, {1, api.OK}, {-1, api.OK},
		{safe - 1, api.OK}, {safe, api.OK}, {safe + 1, api.ErrRange},
		{1 - safe, api.OK}, {-safe, api.OK}, {-safe - 1, api.ErrRange},
		{math.MaxInt64, api.ErrRange}, {math.MinInt64, api.ErrRange}, {math.MinInt64 + 1, api.ErrRange},
	} {
		if e := number.Check(x.n); e != x.e {
			t.Errorf("Check(%d): got %d", x.n, e)
		}
	}
	for _, n := range values() {
		if e := number.Check(n); (e == api.OK) != isNumber(big.NewInt(n)) || e != api.OK && e != api.ErrRange {
			t.Errorf("Check(%d): got %d", n, e)
		}
	}
}

func TestArithmetic(t *testing.T) {
	const none = math.MinInt64
	for _, x := range []struct {
		name       string
		do         func(a, b int64) (int64, api.Errno)
		a, b, want int64
	}{
		{"Add", number.Add, 2, 3, 5},
		{"Add", number.Add, -2, 2, 0},
		{"Add", number.Add, safe, 0, safe},
		{"Add", number.Add, safe - 1, 1, safe},
		{"Add", number.Add, safe, 1, none},
		{"Add", number.Add, -safe, -1, none},
		{"Add", number.Add, safe + 1, -1, none},
		{"Add", number.Add, -1, safe + 1, none},
		{"Add", number.Add, 1 << 62, 1 << 62, none},
		{"Add", number.Add, math.MaxInt64, math.MinInt64, none},
		{"Sub", number.Sub, 2, 3, -1},
		{"Sub", number.Sub, 0, safe, -safe},
		{"Sub", number.Sub, -1, safe, none},
		{"Sub", number.Sub, safe, -1, none},
		{"Sub", number.Sub, safe + 1, safe + 1, none},
		{"Sub", number.Sub, math.MinInt64, math.MinInt64, none},
		{"Mul", number.Mul, -2, 3, -6},
		{"Mul", number.Mul, 0, -safe, 0},
		{"Mul", number.Mul, 1 << 26, 1 << 26, 1 << 52},
		{"Mul", number.Mul, 1 << 27, 1 << 26, none},
		{"Mul", number.Mul, -1 << 27, 1 << 26, none},
		{"Mul", number.Mul, 6361 * 69431, 20394401, safe},
		{"Mul", number.Mul, 6361, -69431 * 20394401, -safe},
		{"Mul", number.Mul, 1 << 32, 1 << 32, none},
		{"Mul", number.Mul, safe, safe, none},
		{"Mul", number.Mul, 0, safe + 1, none},
		{"Mul", number.Mul, math.MinInt64, 0, none},
		{"Div", number.Div, 6, 3, 2},
		{"Div", number.Div, -6, 3, -2},
		{"Div", number.Div, 6, -3, -2},
		{"Div", number.Div, 0, -3, 0},
		{"Div", number.Div, safe, -1, -safe},
		{"Div", number.Div, 7, 2, none},
		{"Div", number.Div, 2, 7, none},
		{"Div", number.Div, -7, 2, none},
		{"Div", number.Div, 7, 0, none},
		{"Div", number.Div, 0, 0, none},
		{"Div", number.Div, safe + 1, 2, none},
		{"Div", number.Div, 0, safe + 1, none},
		{"Div", number.Div, math.MinInt64, -1, none},
		{"Mod", number.Mod, 7, 2, 1},
		{"Mod", number.Mod, -7, 2, -1},
		{"Mod", number.Mod, 7, -2, 1},
		{"Mod", number.Mod, -7, -2, -1},
		{"Mod", number.Mod, -6, 2, 0},
		{"Mod", number.Mod, 2, 7, 2},
		{"Mod", number.Mod, -safe, safe, 0},
		{"Mod", number.Mod, 7, 0, none},
		{"Mod", number.Mod, 0, 0, none},
		{"Mod", number.Mod, safe + 1, 2, none},
		{"Mod", number.Mod, 1, safe + 1, none},
		{"Mod", number.Mod, math.MinInt64, -1, none},
	} {
		want, wantE := x.want, api.OK
		if want == none {
			want, wantE = 0, api.ErrRange
		}
		if got, e := x.do(x.a, x.b); got != want || e != wantE {
			t.Errorf("%s(%d, %d): got %d, %d, want %d, %d", x.name, x.a, x.b, got, e, want, wantE)
		}
	}
}

func TestArithmeticOfValues(t *testing.T) {
	l := values()
	for _, op := range operations() {
		for _, a := range l {
			for _, b := range l {
				check(t, op, a, b)
			}
		}
	}
}

func TestArithmeticOfSmall(t *testing.T) {
	for _, op := range operations() {
		for a := int64(-60); a <= 60; a++ {
			for b := int64(-60); b <= 60; b++ {
				check(t, op, a, b)
			}
		}
	}
}

// TestProductsAtTheEdge multiplies what gives the greatest numbers, and a little more.
func TestProductsAtTheEdge(t *testing.T) {
	r := rand.New(rand.NewPCG(10, 1))
	mul := operations()[2]
	for range 20000 {
		a := random(r)
		if a == 0 {
			continue
		}
		for d := int64(-1); d <= 2; d++ {
			b := safe/a + d
			check(t, mul, a, b)
			check(t, mul, -a, b)
			check(t, mul, b, a)
		}
	}
}

func TestArithmeticAtRandom(t *testing.T) {
	r := rand.New(rand.NewPCG(10, 2))
	for _, op := range operations() {
		for range 40000 {
			a, b := random(r), random(r)
			check(t, op, a, b)
			// What a quotient or a sum comes back from.
			check(t, op, a*b, b)
			check(t, op, safe-a, b)
		}
	}
}

// random returns a number; all lengths are equally frequent.
func random(r *rand.Rand) int64 {
	n := int64(r.Uint64() >> (11 + r.IntN(54)))
	if r.IntN(2) == 0 {
		return -n
	}
	return n
}

// P10.4

func TestUndone(t *testing.T) {
	r := rand.New(rand.NewPCG(10, 3))
	undone := func(a, b int64) {
		if sum, e := number.Add(a, b); e == api.OK {
			if got, e := number.Sub(sum, b); got != a || e != api.OK {
				t.Errorf("%d + %d - %d: got %d, %d", a, b, b, got, e)
			}
		}
		if product, e := number.Mul(a, b); e == api.OK && b != 0 {
			if got, e := number.Div(product, b); got != a || e != api.OK {
				t.Errorf("%d * %d / %d: got %d, %d", a, b, b, got, e)
			}
		}
		if b == 0 {
			return
		}
		rest, e := number.Mod(a, b)
		if e != api.OK || rest != 0 && (rest < 0) != (a < 0) || rest >= max(b, -b) || rest <= -max(b, -b) {
			t.Errorf("%d %% %d: got %d, %d", a, b, rest, e)
		}
		if b*(a/b)+rest != a {
			t.Errorf("%d %% %d: got %d, which is no remainder", a, b, rest)
		}
		if got, e := number.Div(a-rest, b); got != a/b || e != api.OK {
			t.Errorf("(%d - %d) / %d: got %d, %d", a, rest, b, got, e)
		}
	}
	var l []int64
	for _, n := range values() {
		if isNumber(big.NewInt(n)) {
			l = append(l, n)
		}
	}
	for range 200 {
		l = append(l, random(r))
	}
	for _, a := range l {
		for _, b := range l {
			undone(a, b)
		}
	}
}
