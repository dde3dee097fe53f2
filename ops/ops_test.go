package ops_test

import (
	"strings"
	"testing"

	"credenza/api"
	"credenza/heap"
	"credenza/ops"
)

const safe = 1<<53 - 1

// made is a heap with the values that are told.
func made(l ...thing) (*heap.Heap, []api.Val) {
	h := heap.New(100000)
	var vals []api.Val
	for _, x := range l {
		vals = append(vals, x.val(h))
	}
	return h, vals
}

// tooDeep has no text, and neither has tooLong, which is no text itself.
var (
	tooDeep = nest(num(1), 21, inList)
	tooLong = list(long(4096), num(1))
)

// P12.1

func TestTypeofAndTruthy(t *testing.T) {
	for _, x := range []struct {
		v      thing
		typeof string
		truthy bool
	}{
		{undef, "undefined", false}, {null, "object", false}, {no, "boolean", false}, {yes, "boolean", true},
		{num(0), "number", false}, {num(1), "number", true}, {num(-1), "number", true}, {num(safe), "number", true}, {num(-safe), "number", true}, {num(1 << 32), "number", true},
		{text(""), "string", false}, {text("0"), "string", true}, {text("false"), "string", true}, {text(" "), "string", true}, {text("\x00"), "string", true}, {long(5000), "string", true},
		{object("Object"), "object", true}, {object(""), "object", true}, {object("Function"), "function", true}, {object("function"), "object", true}, {object("Function "), "object", true}, {object("Math"), "object", true},
		{list(), "object", true}, {list(num(0)), "object", true}, {fault(hole, hole), "object", true}, {fault(text(""), hole), "object", true}, {tooDeep, "object", true}, {tooLong, "object", true},
	} {
		h, v := made(object("Function"), x.v)
		if got := ops.Typeof(h, v[1]); got != x.typeof {
			t.Errorf("Typeof(%v): got %q", x.v, got)
		}
		if got := ops.Truthy(v[1]); got != x.truthy {
			t.Errorf("Truthy(%v): got %v", x.v, got)
		}
	}
}

// P12.2: Number

func TestNumber(t *testing.T) {
	for _, x := range []struct {
		v thing
		n int64
		e api.Errno
	}{
		{undef, 0, api.ErrRange}, {null, 0, api.OK}, {no, 0, api.OK}, {yes, 1, api.OK},
		{num(0), 0, api.OK}, {num(7), 7, api.OK}, {num(-7), -7, api.OK}, {num(safe), safe, api.OK}, {num(-safe), -safe, api.OK},
		{text(""), 0, api.OK}, {text(" \n"), 0, api.OK}, {text("12"), 12, api.OK}, {text(" -012 "), -12, api.OK}, {text("+7\ufeff"), 7, api.OK}, {text("0x1F"), 31, api.OK},
		{text("1.0"), 0, api.ErrRange}, {text("a"), 0, api.ErrRange}, {text("true"), 0, api.ErrRange}, {text("null"), 0, api.ErrRange}, {text("1 2"), 0, api.ErrRange}, {text("9007199254740991"), safe, api.OK}, {text("9007199254740992"), 0, api.ErrRange},
		{text(strings.Repeat("0", 4095) + "7"), 7, api.OK}, {text(strings.Repeat("0", 4096) + "7"), 0, api.ErrRange}, {text(strings.Repeat(" ", 4096)), 0, api.OK}, {text(strings.Repeat(" ", 4097)), 0, api.ErrRange},
		{list(), 0, api.OK}, {list(null), 0, api.OK}, {list(undef), 0, api.OK}, {list(num(5)), 5, api.OK}, {list(text("0x10")), 16, api.OK}, {list(list(list(num(-5)))), -5, api.OK},
		{list(yes), 0, api.ErrRange}, {list(num(1), num(2)), 0, api.ErrRange}, {list(null, null), 0, api.ErrRange},
		{list(text(strings.Repeat("0", 4095) + "7")), 7, api.OK}, {list(text(strings.Repeat("0", 4096) + "7")), 0, api.ErrRange},
		{object("Object"), 0, api.ErrRange}, {object("Function"), 0, api.ErrRange}, {fault(hole, hole), 0, api.ErrRange},
		{fault(text(""), text("")), 0, api.OK}, {fault(num(3), hole), 3, api.OK}, {fault(text(""), text(" 4 ")), 4, api.OK}, {fault(num(3), num(4)), 0, api.ErrRange},
		{nest(num(6), 20, inList), 6, api.OK}, {tooDeep, 0, api.ErrRange}, {tooLong, 0, api.ErrRange},
	} {
		h, v := made(object("Object"), x.v)
		if got, e := ops.Number(h, v[1]); got != x.n || e != x.e {
			t.Errorf("Number(%v): got %d, %d, want %d, %d", x.v, got, e, x.n, x.e)
		}
	}
}

// P12.3

func TestStrict(t *testing.T) {
	h, v := made(undef, null, no, yes, num(0), num(1), num(-1), text(""), text("0"), text("1"), text("ab"), text("aB"), long(5000), list(), list(), list(num(1)), object("Object"), object("Object"), object("Function"), tooDeep)
	again := []api.Val{}
	for _, x := range v {
		x.S = strings.Clone(x.S)
		again = append(again, x)
	}
	for i, a := range v {
		for j, b := range again {
			if got := ops.Strict(a, b); got != (i == j) {
				t.Errorf("Strict(%v, %v): got %v", a, b, got)
			}
			for _, op := range []string{"===", "!=="} {
				want := (i == j) == (op == "===")
				if got, e := ops.Binary(h, op, a, b); got != boolean(want) || e != api.OK {
					t.Errorf("%v %s %v: got %v, %d", a, op, b, got, e)
				}
			}
		}
	}
}

func boolean(is bool) api.Val {
	if is {
		return api.Val{Kind: api.Bool, N: 1}
	}
	return api.Val{Kind: api.Bool}
}

func TestLoose(t *testing.T) {
	for _, x := range []struct {
		a, b thing
		is   bool
		e    api.Errno
	}{
		// Of the same Kind.
		{undef, undef, true, api.OK}, {null, null, true, api.OK}, {no, no, true, api.OK}, {no, yes, false, api.OK}, {num(1), num(1), true, api.OK}, {num(1), num(2), false, api.OK},
		{text("a"), text("a"), true, api.OK}, {text("1"), text("01"), false, api.OK}, {text(""), text(" "), false, api.OK}, {text(""), text("0"), false, api.OK}, {long(5000), long(5000), true, api.OK}, {long(5000), long(5001), false, api.OK},
		{list(), list(), false, api.OK}, {object("Function"), object("Function"), false, api.OK}, {tooDeep, tooDeep, false, api.OK}, {tooLong, tooDeep, false, api.OK},
		// Undef and Null.
		{undef, null, true, api.OK}, {undef, no, false, api.OK}, {undef, num(0), false, api.OK}, {undef, text(""), false, api.OK}, {undef, text("undefined"), false, api.OK}, {undef, list(), false, api.OK}, {undef, object("Object"), false, api.OK},
		{null, no, false, api.OK}, {null, num(0), false, api.OK}, {null, text(""), false, api.OK}, {null, text("null"), false, api.OK}, {null, list(), false, api.OK}, {null, list(null), false, api.OK},
		{undef, tooDeep, false, api.OK}, {null, tooDeep, false, api.OK}, {undef, tooLong, false, api.OK}, {null, long(5000), false, api.OK},
		// Objects and others.
		{list(num(1)), num(1), true, api.OK}, {list(num(1)), text("1"), true, api.OK}, {list(num(1)), text("01"), false, api.OK}, {list(text("01")), num(1), true, api.OK}, {list(num(1)), yes, true, api.OK}, {list(num(2)), yes, false, api.OK},
		{list(), no, true, api.OK}, {list(), text(""), true, api.OK}, {list(), num(0), true, api.OK}, {list(num(1), num(2)), text("1,2"), true, api.OK}, {list(num(1), num(2)), num(1), false, api.OK},
		{object("Object"), text("[object Object]"), true, api.OK}, {object("Object"), num(0), false, api.OK}, {object("Object"), yes, false, api.OK}, {object("Function"), text("function"), true, api.OK}, {fault(text("a"), text("b")), text("a: b"), true, api.OK},
		{tooDeep, num(1), false, api.ErrRange}, {tooDeep, text("1"), false, api.ErrRange}, {tooDeep, yes, false, api.ErrRange}, {tooLong, text(""), false, api.ErrRange}, {tooLong, no, false, api.ErrRange}, {tooLong, long(5000), false, api.ErrRange},
		{list(long(4096)), long(4096), true, api.OK}, {list(long(4096)), long(5000), false, api.OK}, {nest(num(1), 20, inList), num(1), true, api.OK},
		// Numbers, texts and booleans.
		{num(1), yes, true, api.OK}, {num(0), no, true, api.OK}, {num(2), yes, false, api.OK}, {num(1), text("1"), true, api.OK}, {num(1), text(" 01\n"), true, api.OK}, {num(16), text("0x10"), true, api.OK}, {num(0), text(""), true, api.OK}, {num(1), text("2"), false, api.OK},
		{num(1), text("1.0"), false, api.OK}, {num(0), text("a"), false, api.OK}, {num(0), text("9007199254740992"), false, api.OK}, {num(0), long(5000), false, api.OK}, {num(0), text(strings.Repeat("0", 4096)), true, api.OK}, {num(0), text(strings.Repeat("0", 4097)), false, api.OK},
		{yes, text("1"), true, api.OK}, {no, text("0"), true, api.OK}, {no, text(""), true, api.OK}, {no, text("false"), false, api.OK}, {yes, text("true"), false, api.OK}, {no, text("x"), false, api.OK}, {no, long(5000), false, api.OK},
	} {
		h, v := made(x.a, x.b)
		for _, v := range [][]api.Val{v, {v[1], v[0]}} {
			is, e := ops.Loose(h, v[0], v[1])
			if is != x.is || e != x.e {
				t.Errorf("Loose(%v, %v): got %v, %d, want %v, %d", x.a, x.b, is, e, x.is, x.e)
			}
			for _, op := range []string{"==", "!="} {
				want := boolean(is == (op == "=="))
				if x.e != api.OK {
					want = api.Val{}
				}
				if got, e := ops.Binary(h, op, v[0], v[1]); got != want || e != x.e {
					t.Errorf("%v %s %v: got %v, %d", x.a, op, x.b, got, e)
				}
			}
		}
	}
}

// What an object is equal to, other than another object, it is also to itself.
func TestSameObject(t *testing.T) {
	for _, x := range []thing{list(), list(num(1)), object("Object"), object("Function"), fault(hole, hole), tooDeep, tooLong} {
		h, v := made(x)
		if is, e := ops.Loose(h, v[0], v[0]); !is || e != api.OK || !ops.Strict(v[0], v[0]) {
			t.Errorf("%v: got %v, %d", x, is, e)
		}
	}
}

// P12.4

func TestUnary(t *testing.T) {
	for _, x := range []struct {
		op   string
		v    thing
		want thing
	}{
		{"-", num(7), num(-7)}, {"-", num(-7), num(7)}, {"-", num(0), num(0)}, {"-", num(safe), num(-safe)}, {"-", num(-safe), num(safe)},
		{"-", null, num(0)}, {"-", yes, num(-1)}, {"-", no, num(0)}, {"-", text(" 12"), num(-12)}, {"-", text("-0x1"), hole}, {"-", text("0x1f"), num(-31)}, {"-", text(""), num(0)}, {"-", list(num(3)), num(-3)}, {"-", list(), num(0)},
		{"-", undef, hole}, {"-", text("a"), hole}, {"-", object("Object"), hole}, {"-", tooDeep, hole}, {"-", tooLong, hole}, {"-", text("9007199254740992"), hole},
		{"+", num(7), num(7)}, {"+", num(-7), num(-7)}, {"+", num(safe), num(safe)}, {"+", null, num(0)}, {"+", yes, num(1)}, {"+", no, num(0)}, {"+", text(" -012 "), num(-12)}, {"+", text(""), num(0)}, {"+", list(text("5")), num(5)},
		{"+", undef, hole}, {"+", text("1.5"), hole}, {"+", object("Function"), hole}, {"+", tooDeep, hole}, {"+", long(4097), hole},
		{"!", undef, yes}, {"!", null, yes}, {"!", no, yes}, {"!", yes, no}, {"!", num(0), yes}, {"!", num(-3), no}, {"!", text(""), yes}, {"!", text("0"), no}, {"!", list(), no}, {"!", object("Object"), no}, {"!", tooDeep, no}, {"!", long(5000), no},
		{"typeof", undef, text("undefined")}, {"typeof", null, text("object")}, {"typeof", yes, text("boolean")}, {"typeof", num(1), text("number")}, {"typeof", text("a"), text("string")}, {"typeof", list(), text("object")}, {"typeof", object("Function"), text("function")}, {"typeof", tooDeep, text("object")}, {"typeof", long(5000), text("string")},
		{"void", undef, undef}, {"void", null, undef}, {"void", yes, undef}, {"void", num(7), undef}, {"void", text("a"), undef}, {"void", list(), undef}, {"void", tooDeep, undef}, {"void", long(5000), undef},
	} {
		h, v := made(x.v)
		got, e := ops.Unary(h, x.op, v[0])
		want, wantE := x.want.val(h), api.OK
		if x.want.kind == hole.kind {
			want, wantE = api.Val{}, api.ErrRange
		}
		if got != want || e != wantE {
			t.Errorf("%s %v: got %v, %d, want %v, %d", x.op, x.v, got, e, want, wantE)
		}
	}
}

// P12.5

func TestBinary(t *testing.T) {
	for _, x := range []struct {
		a    thing
		op   string
		b    thing
		want thing
	}{
		{num(1), "+", num(2), num(3)}, {num(safe), "+", num(1), hole}, {num(-safe), "+", num(-1), hole}, {num(safe), "+", num(-1), num(safe - 1)}, {null, "+", num(1), num(1)}, {yes, "+", yes, num(2)}, {null, "+", null, num(0)}, {no, "+", null, num(0)}, {undef, "+", num(1), hole}, {num(1), "+", undef, hole}, {undef, "+", undef, hole}, {undef, "+", null, hole},
		{num(1), "+", text("2"), text("12")}, {text("1"), "+", num(2), text("12")}, {text("a"), "+", text("b"), text("ab")}, {text(""), "+", text(""), text("")}, {text(""), "+", num(-0), text("0")}, {text("a"), "+", undef, text("aundefined")}, {null, "+", text("a"), text("nulla")}, {yes, "+", text(""), text("true")}, {text("x"), "+", no, text("xfalse")},
		{list(), "+", list(), text("")}, {list(num(1), num(2)), "+", num(3), text("1,23")}, {num(3), "+", list(), text("3")}, {object("Object"), "+", undef, text("[object Object]undefined")}, {null, "+", object("Function"), text("nullfunction")}, {fault(hole, text("m")), "+", yes, text("Error: mtrue")},
		{long(4095), "+", text("y"), text(strings.Repeat("x", 4095) + "y")}, {text("y"), "+", long(4095), text("y" + strings.Repeat("x", 4095))}, {long(4096), "+", text(""), long(4096)}, {text(""), "+", long(4096), long(4096)}, {long(4096), "+", text("y"), hole}, {text("y"), "+", long(4096), hole}, {long(4096), "+", num(1), hole}, {long(4096), "+", list(), long(4096)}, {long(2048), "+", long(2048), long(4096)}, {long(2048), "+", long(2049), hole}, {long(4096), "+", long(4096), hole},
		{long(4097), "+", text(""), hole}, {text(""), "+", long(4097), hole}, {tooDeep, "+", num(1), hole}, {num(1), "+", tooDeep, hole}, {text(""), "+", tooLong, hole}, {tooLong, "+", undef, hole}, {tooDeep, "+", tooLong, hole}, {nest(num(1), 20, inList), "+", nest(num(2), 20, inList), text("12")},

		{num(5), "-", num(7), num(-2)}, {text("5"), "-", text(" 7"), num(-2)}, {list(num(5)), "-", yes, num(4)}, {null, "-", num(5), num(-5)}, {num(-safe), "-", num(1), hole}, {text("a"), "-", num(1), hole}, {num(1), "-", text("a"), hole}, {undef, "-", num(1), hole}, {num(1), "-", undef, hole}, {tooDeep, "-", num(1), hole}, {num(1), "-", tooLong, hole},
		{num(6), "*", num(7), num(42)}, {text("6"), "*", num(-7), num(-42)}, {num(1 << 27), "*", num(1 << 26), hole}, {num(94906265), "*", num(94906265), num(9007199136250225)}, {null, "*", num(5), num(0)}, {undef, "*", num(0), hole}, {num(0), "*", undef, hole}, {num(0), "*", text("x"), hole},
		{num(42), "/", num(7), num(6)}, {num(7), "/", num(2), hole}, {num(1), "/", num(0), hole}, {num(0), "/", num(0), hole}, {num(0), "/", num(-5), num(0)}, {text("8"), "/", list(num(-2)), num(-4)}, {yes, "/", yes, num(1)}, {num(1), "/", null, hole}, {num(1), "/", text(""), hole}, {undef, "/", num(1), hole},
		{num(-7), "%", num(2), num(-1)}, {num(7), "%", num(-2), num(1)}, {num(7), "%", num(0), hole}, {text("7"), "%", text("4"), num(3)}, {num(7), "%", no, hole}, {null, "%", num(3), num(0)}, {num(1), "%", undef, hole},

		{num(1), "<", num(2), yes}, {num(2), "<", num(2), no}, {num(3), "<", num(2), no}, {num(-3), "<", num(2), yes}, {num(1), ">", num(2), no}, {num(2), ">", num(2), no}, {num(3), ">", num(2), yes}, {num(1), "<=", num(2), yes}, {num(2), "<=", num(2), yes}, {num(3), "<=", num(2), no}, {num(1), ">=", num(2), no}, {num(2), ">=", num(2), yes}, {num(3), ">=", num(2), yes},
		{text("10"), "<", text("9"), yes}, {num(10), "<", text("9"), no}, {text("10"), "<", num(9), no}, {text("a"), "<", text("b"), yes}, {text("a"), "<", text("a"), no}, {text("a"), "<", text("aa"), yes}, {text("aa"), "<", text("b"), yes}, {text("B"), "<", text("a"), yes}, {text(""), "<", text("\x00"), yes}, {text("\u00ff"), "<", text("\u0100"), yes}, {text("\u0100"), ">", text("\u00ffz"), yes}, {text("\uffff"), ">", text("\ud7ff"), yes}, {text("a"), "<=", text("a"), yes}, {text("a"), ">=", text("aa"), no}, {text("a\u0100"), "<", text("b\x00"), yes},
		{list(num(10)), "<", list(num(9)), yes}, {list(num(10)), "<", num(9), no}, {list(num(10)), "<", text("9"), yes}, {list(num(1), num(2)), "<", num(9), hole}, {list(num(1), num(2)), "<", text("1,3"), yes}, {list(), "<=", list(), yes}, {list(), ">=", list(), yes}, {list(), "<", list(), no}, {object("Object"), ">", text("Z"), yes}, {object("Function"), "<", object("Object"), no},
		{null, "<", num(1), yes}, {null, "<=", null, yes}, {null, "<", yes, yes}, {no, "<", yes, yes}, {no, ">=", null, yes}, {yes, ">", text(""), yes}, {text("0x10"), ">", num(15), yes}, {null, "<", text("1"), yes},
		{undef, "<", num(1), hole}, {num(1), ">", undef, hole}, {undef, "<=", undef, hole}, {undef, ">=", null, hole}, {text("a"), "<", num(1), hole}, {num(1), ">=", text("a"), hole}, {undef, "<", text("a"), hole}, {object("Object"), "<", num(1), hole}, {null, "<", text("null"), hole}, {text("1.5"), ">", num(1), hole},
		{tooDeep, "<", text("a"), hole}, {text("a"), ">", tooDeep, hole}, {tooLong, "<=", tooLong, hole}, {num(1), ">=", tooLong, hole}, {tooDeep, "<", undef, hole},
		{long(5000), "<", text("y"), yes}, {long(5000), "<", long(5001), yes}, {long(5000), ">=", long(5000), yes}, {long(5000), "<=", list(), no}, {list(), "<=", long(5000), yes}, {long(5000), "<", num(1), hole}, {text(strings.Repeat("0", 4096) + "1"), ">", num(0), hole}, {num(0), "<", text(strings.Repeat("0", 4095) + "1"), yes},

		{null, "==", undef, yes}, {text("1"), "==", num(1), yes}, {list(num(1)), "==", num(1), yes}, {tooDeep, "==", num(1), hole}, {tooDeep, "!=", num(1), hole}, {num(1), "!=", text("x"), yes}, {num(1), "!=", text("1"), no},
		{num(1), "===", text("1"), no}, {num(1), "!==", text("1"), yes}, {null, "===", undef, no}, {num(1), "===", num(1), yes}, {tooDeep, "===", num(1), no}, {tooDeep, "!==", tooLong, yes},
	} {
		h, v := made(x.a, x.b)
		got, e := ops.Binary(h, x.op, v[0], v[1])
		want, wantE := x.want.val(h), api.OK
		if x.want.kind == hole.kind {
			want, wantE = api.Val{}, api.ErrRange
		}
		if got != want || e != wantE {
			t.Errorf("%v %s %v: got %.200v, %d, want %.200v, %d", x.a, x.op, x.b, got, e, want, wantE)
		}
	}
}

// Operators that are none of these, whatever they are to be applied to.
func TestOtherOperators(t *testing.T) {
	h, v := made(undef, null, yes, num(7), text("a"), list(num(1)), object("Function"), tooDeep, tooLong)
	others := []string{"", " ", "a", "in", "instanceof", "delete", "&&", "||", ",", "?", "=", "+=", "-=", "*=", "/=", "%=", "++", "--", "&", "|", "^", "~", "<<", ">>", ">>>", "**", "=>", "=<", "<>", "====", "!===", "!!", "+ ", " +", "-\x00", "\x00-", "\x00+", "Typeof", "TYPEOF", "typeof ", "void 0", "new", "plus", "==\n", "\xff"}
	unary, binary := []string{"-", "+", "!", "typeof", "void"}, []string{"+", "-", "*", "/", "%", "<", ">", "<=", ">=", "==", "!=", "===", "!=="}
	for _, a := range v {
		for _, op := range append(others, binary[2:]...) {
			if got, e := ops.Unary(h, op, a); got != (api.Val{}) || e != api.ErrArg {
				t.Errorf("%q %v: got %v, %d", op, a, got, e)
			}
		}
		for _, b := range v {
			for _, op := range append(others, unary[2:]...) {
				if got, e := ops.Binary(h, op, a, b); got != (api.Val{}) || e != api.ErrArg {
					t.Errorf("%v %q %v: got %v, %d", a, op, b, got, e)
				}
			}
		}
	}
}
