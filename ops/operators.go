package ops

import (
	"cmp"

	"credenza/api"
	"credenza/heap"
	"credenza/number"
)

// Unary returns what the operator op makes of v.
func Unary(h *heap.Heap, op string, v api.Val) (api.Val, api.Errno) {
	switch op {
	case "-":
		return arithmetic(h, number.Sub, api.Val{Kind: api.Num}, v)
	case "+":
		return numVal(Number(h, v))
	case "!":
		return boolVal(!Truthy(v), api.OK)
	case "typeof":
		return textVal(wide(Typeof(h, v)), api.OK)
	case "void":
		return api.Val{}, api.OK
	}
	return api.Val{}, api.ErrArg
}

// Binary returns what the operator op makes of a and b.
func Binary(h *heap.Heap, op string, a, b api.Val) (api.Val, api.Errno) {
	switch op {
	case "+":
		if isWritten(a) || isWritten(b) {
			return concatenate(h, a, b)
		}
		return arithmetic(h, number.Add, a, b)
	case "-":
		return arithmetic(h, number.Sub, a, b)
	case "*":
		return arithmetic(h, number.Mul, a, b)
	case "/":
		return arithmetic(h, number.Div, a, b)
	case "%":
		return arithmetic(h, number.Mod, a, b)
	case "<", ">", "<=", ">=":
		return compare(h, op, a, b)
	case "==", "!=":
		is, e := Loose(h, a, b)
		return boolVal(is == (op == "=="), e)
	case "===", "!==":
		return boolVal(Strict(a, b) == (op == "==="), api.OK)
	}
	return api.Val{}, api.ErrArg
}

// isWritten reports whether a sum with v is that of texts.
func isWritten(v api.Val) bool {
	return v.Kind == api.Text || v.Kind == api.Ref
}

// concatenate returns the text of a followed by that of b.
func concatenate(h *heap.Heap, a, b api.Val) (api.Val, api.Errno) {
	return textVal(build(func(add adder) {
		if add(Text(h, a)) {
			add(Text(h, b))
		}
	}))
}

// arithmetic returns what calculate makes of the numbers of a and b.
func arithmetic(h *heap.Heap, calculate func(m, n int64) (int64, api.Errno), a, b api.Val) (api.Val, api.Errno) {
	m, n, e := numbers(h, a, b)
	if e != api.OK {
		return api.Val{}, e
	}
	return numVal(calculate(m, n))
}

// compare reports whether a and b stand in the relation op.
func compare(h *heap.Heap, op string, a, b api.Val) (api.Val, api.Errno) {
	sign, e := order(h, a, b)
	switch op {
	case "<":
		return boolVal(sign < 0, e)
	case ">":
		return boolVal(sign > 0, e)
	case "<=":
		return boolVal(sign <= 0, e)
	}
	return boolVal(sign >= 0, e)
}

// order returns a negative number if a is less than b, 0 if they are equal, and
// otherwise a positive number.
func order(h *heap.Heap, a, b api.Val) (int, api.Errno) {
	x, y, e := primitives(h, a, b)
	if e != api.OK {
		return 0, e
	}
	if x.Kind == api.Text && y.Kind == api.Text {
		// The bytes are ordered like the units, whose higher bytes come first.
		return cmp.Compare(x.S, y.S), api.OK
	}
	m, n, e := numbers(h, x, y)
	return cmp.Compare(m, n), e
}

// boolVal returns a Bool, unless there is an error.
func boolVal(is bool, e api.Errno) (api.Val, api.Errno) {
	switch {
	case e != api.OK:
		return api.Val{}, e
	case is:
		return api.Val{Kind: api.Bool, N: 1}, api.OK
	}
	return api.Val{Kind: api.Bool}, api.OK
}

// numVal returns a Num, unless there is an error.
func numVal(n int64, e api.Errno) (api.Val, api.Errno) {
	if e != api.OK {
		return api.Val{}, e
	}
	return api.Val{Kind: api.Num, N: n}, api.OK
}

// textVal returns a Text, unless there is an error.
func textVal(s string, e api.Errno) (api.Val, api.Errno) {
	if e != api.OK {
		return api.Val{}, e
	}
	return api.Val{Kind: api.Text, S: s}, api.OK
}
