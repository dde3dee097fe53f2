package ops_test

import (
	"math/rand/v2"
	"strconv"
	"strings"
	"testing"

	"credenza/api"
	"credenza/heap"
	"credenza/ops"
)

// P12.2: Text

func TestText(t *testing.T) {
	for _, x := range []struct {
		v    thing
		want string
	}{
		{undef, "undefined"}, {null, "null"}, {no, "false"}, {yes, "true"},
		{num(0), "0"}, {num(-12), "-12"}, {num(1<<53 - 1), "9007199254740991"}, {num(1 - 1<<53), "-9007199254740991"},
		{text(""), ""}, {text("ab"), "ab"}, {text("\x00\u00e9\uffff,"), "\x00\u00e9\uffff,"}, {text("null"), "null"},
		{object("Function"), "function"},
		{object("Object"), "[object Object]"}, {object("Math"), "[object Math]"}, {object(""), "[object ]"},
		{object("array"), "[object array]"}, {object("TypeError"), "[object TypeError]"}, {object("function"), "[object function]"}, {object("Arrays"), "[object Arrays]"},
		// A class may have any bytes, each of which is a unit.
		{object("\xff\x80\x00"), "[object \u00ff\u0080\x00]"}, {object("\u00e9"), "[object \u00c3\u00a9]"},
	} {
		wantText(t, x.v, x.want)
	}
}

func TestTextOfArrays(t *testing.T) {
	for _, x := range []struct {
		v    thing
		want string
	}{
		{list(), ""}, {list(num(1)), "1"}, {list(num(1), num(2), num(-3)), "1,2,-3"},
		{list(undef), ""}, {list(null), ""}, {list(hole), ""}, {list(undef, null), ","}, {list(null, null, null), ",,"},
		{list(num(1), null, text("x")), "1,,x"}, {list(hole, num(1), hole), ",1,"},
		{list(no, yes, text(""), text(","), text("null")), "false,true,,,,null"},
		{list(list()), ""}, {list(list(), list()), ","}, {list(list(num(1), num(2)), list(num(3), list(num(4)))), "1,2,3,4"},
		{list(object("Object"), object("Function"), object("")), "[object Object],function,[object ]"},
		{list(fault(hole, hole), fault(text("a"), text("b"))), "Error,a: b"},
		{list(text("\u2028\uffff"), text("\u0100")), "\u2028\uffff,\u0100"},
	} {
		wantText(t, x.v, x.want)
	}
	for _, count := range []int{1, 2, 9, 10, 11, 99, 100, 101, 999, 1000} {
		l := make([]thing, count)
		var want []string
		for i := range l {
			l[i] = num(int64(i % 8))
			want = append(want, strconv.Itoa(i%8))
		}
		wantText(t, list(l...), strings.Join(want, ","))
		for i := range l {
			l[i] = hole
		}
		wantText(t, list(l...), strings.Repeat(",", count-1))
		l[count-1] = text("z")
		wantText(t, list(l...), strings.Repeat(",", count-1)+"z")
	}
}

func TestTextOfErrors(t *testing.T) {
	for _, x := range []struct {
		v    thing
		want string
	}{
		{fault(hole, hole), "Error"}, {fault(undef, undef), "Error"},
		{fault(hole, text("")), "Error"}, {fault(text(""), hole), ""}, {fault(text(""), text("")), ""},
		{fault(text("a"), hole), "a"}, {fault(text("a"), text("")), "a"}, {fault(hole, text("b")), "Error: b"}, {fault(text(""), text("b")), "b"},
		{fault(text("a"), text("b")), "a: b"}, {fault(text(": "), text(": ")), ": : : "},
		{fault(null, null), "null: null"}, {fault(num(1), no), "1: false"}, {fault(yes, undef), "true"}, {fault(undef, num(0)), "Error: 0"},
		{fault(list(), list()), ""}, {fault(list(num(1), null), list(null)), "1,"}, {fault(list(null), list(null, num(1))), ",1"},
		{fault(object("Function"), fault(hole, hole)), "function: Error"},
		{fault(fault(text("a"), text("b")), fault(text("c"), text("d"))), "a: b: c: d"},
		{fault(fault(text(""), text("")), fault(hole, hole)), "Error"},
		{fault(object("Object"), hole), "[object Object]"},
	} {
		wantText(t, x.v, x.want)
	}
}

// What an object does not have itself may be that of its prototype, which then is
// the value, also if it is Undef.
func TestTextOfInherited(t *testing.T) {
	h := heap.New(1000)
	put := func(v api.Val, key string, x thing) { h.Put(v, wide(key), x.val(h)) }
	create := func(class string, proto api.Val) api.Val {
		v, _ := h.Make(class, proto)
		return v
	}
	want := func(v api.Val, want string) {
		t.Helper()
		if got, e := ops.Text(h, v); got != wide(want) || e != api.OK {
			t.Errorf("got %q, %d, want %q", got, e, want)
		}
	}
	top := create("Object", api.Val{Kind: api.Null})
	put(top, "name", text("TypeError"))
	put(top, "message", text("none"))
	put(top, "0", num(7))
	put(top, "2", num(9))
	put(top, "length", num(3))
	proto := create("Error", top)
	put(proto, "message", undef)
	err := create("Error", proto)
	want(err, "TypeError")
	put(err, "message", text("m"))
	want(err, "TypeError: m")
	put(err, "name", text(""))
	want(err, "m")
	want(create("Error", top), "TypeError: none")
	want(top, "[object Object]")
	array := create("Array", top)
	want(array, "")
	put(array, "1", null)
	want(array, "7,")
	put(array, "length", num(4))
	want(array, "7,,9,")
	put(array, "0", undef)
	want(array, ",,9,")
	// What is no index below the length does not count, nor who may change it.
	put(array, "01", num(5))
	put(array, "-1", num(5))
	h.Define(array, api.Prop{Key: wide("3"), V: no.val(h)})
	want(array, ",,9,false")
	want(create("Array", array), "")
	want(create("Function", proto), "function")
}

// What an Error or an Array has besides does not count.
func TestTextOfOtherProperties(t *testing.T) {
	for _, class := range []string{"Object", "Function", "Array", "Error"} {
		h := heap.New(1000)
		v := object(class).bare().val(h)
		before, _ := ops.Text(h, v)
		for _, key := range []string{"toString", "valueOf", "class", "Name", "n", "join", "prototype", "constructor", "-1", "1.5", "", "lengths"} {
			h.Put(v, wide(key), text("x").val(h))
		}
		if after, e := ops.Text(h, v); after != before || e != api.OK {
			t.Errorf("%s: got %q, %d, want %q", class, after, e, before)
		}
	}
}

// Each text may have 4096 units, but no more, wherever it stands.
func TestTextOfLong(t *testing.T) {
	for _, x := range []struct {
		make func(count int) thing
		more int // units besides
	}{
		{func(n int) thing { return long(n) }, 0},
		{func(n int) thing { return text(strings.Repeat("\u0100", n)) }, 0},
		{func(n int) thing { return object(strings.Repeat("c", n)) }, 9},
		{func(n int) thing { return list(long(n)) }, 0},
		{func(n int) thing { return list(long(n), null) }, 1},
		{func(n int) thing { return list(null, long(n)) }, 1},
		{func(n int) thing { return list(long(n), text("")) }, 1},
		{func(n int) thing { return list(text(""), long(n), list(), text("")) }, 3},
		{func(n int) thing { return list(null, hole, long(n), undef) }, 3},
		{func(n int) thing { return list(long(n/2), long(n-n/2)) }, 1},
		{func(n int) thing { return list(list(long(n/2), num(7)), list(long(n-n/2))) }, 3},
		{func(n int) thing { return list(long(n), object("Function")) }, 9},
		{func(n int) thing { return list(object(strings.Repeat("c", n))) }, 9},
		{func(n int) thing { return fault(long(n), hole) }, 0},
		{func(n int) thing { return fault(long(n), text("")) }, 0},
		{func(n int) thing { return fault(text(""), long(n)) }, 0},
		{func(n int) thing { return fault(hole, long(n)) }, 7},
		{func(n int) thing { return fault(long(n), text("x")) }, 3},
		{func(n int) thing { return fault(text("x"), long(n)) }, 3},
		{func(n int) thing { return fault(long(n/2), long(n-n/2)) }, 2},
		{func(n int) thing { return fault(list(), list(long(n))) }, 0},
		{func(n int) thing { return nest(long(n), 20, inList, inName) }, 0},
		{func(n int) thing { return nest(long(n), 20, inMessage, inList, inMessage) }, 13 * 7},
	} {
		for _, count := range []int{4094, 4095, 4096, 4097, 4098, 5000, 8192, 8193, 20000} {
			v := x.make(count - x.more)
			want, _, _ := v.write()
			if len([]rune(want)) != count {
				t.Fatalf("%v has %d units, want %d", v, len([]rune(want)), count)
			}
			if count <= 4096 {
				wantText(t, v, want)
			} else {
				wantNoText(t, v)
			}
		}
	}
	many := make([]thing, 1000)
	for i := range many {
		many[i] = num(100)
	}
	wantText(t, list(many...), strings.Repeat("100,", 999)+"100")
	many[0] = text(strings.Repeat("x", 100))
	wantText(t, list(many...), strings.Repeat("x", 100)+strings.Repeat(",100", 999))
	many[0] = text(strings.Repeat("x", 101))
	wantNoText(t, list(many...))
	wantNoText(t, list(list(many...), text("")))
}

// An object may be nested within 19 others, but not within 20; what is no object may.
func TestTextOfDeep(t *testing.T) {
	ways := [][]func(thing) thing{
		{inList}, {inName}, {inMessage}, {inList, inName, inMessage},
		{func(x thing) thing { return list(null, x) }},
		{inList, func(x thing) thing { return fault(text("a"), x) }},
		{func(x thing) thing { return list(yes, x, hole) }, func(x thing) thing { return fault(x, text("b")) }},
	}
	for _, around := range ways {
		for count := range 24 {
			for _, x := range []struct {
				v    thing
				deep int // objects in one another
			}{
				{undef, 0}, {null, 0}, {yes, 0}, {num(7), 0}, {text("z"), 0},
				{list(), 1}, {list(num(1)), 1}, {object("Function"), 1}, {object("Object"), 1}, {object(""), 1}, {fault(hole, hole), 1},
				{fault(hole, list()), 2}, {list(null, list(), list(list())), 3},
			} {
				v := nest(x.v, count, around...)
				if count+x.deep > 20 {
					wantNoText(t, v)
					continue
				}
				want, _, _ := v.write()
				wantText(t, v, want)
			}
		}
	}
}

// An object that has itself, or that has what has it, is too deep at last.
func TestTextOfCircles(t *testing.T) {
	for _, class := range []string{"Array", "Error"} {
		for _, other := range []string{"Array", "Error"} {
			for _, keys := range [][]string{{"0", "name"}, {"1", "message"}} {
				h := heap.New(1000)
				a, b := object(class).bare().val(h), object(other).bare().val(h)
				for _, key := range keys {
					h.Put(a, wide(key), b)
					h.Put(b, wide(key), a)
				}
				for _, v := range []api.Val{a, b} {
					if got, e := ops.Text(h, v); got != "" || e != api.ErrRange {
						t.Errorf("%s, %s: got %q, %d", class, other, got, e)
					}
				}
				h.Put(a, wide(keys[0]), a)
				h.Put(a, wide(keys[1]), a)
				if got, e := ops.Text(h, a); got != "" || e != api.ErrRange {
					t.Errorf("%s in itself: got %q, %d", class, got, e)
				}
			}
		}
	}
}

// One object may stand at several places, at each of which it is as deep as it is.
func TestTextOfShared(t *testing.T) {
	h := heap.New(1000)
	leaf := list(num(7)).val(h)
	inner := object("Array").bare().val(h)
	h.Put(inner, wide("0"), leaf)
	outer := object("Array").bare().val(h)
	for i, x := range []api.Val{leaf, inner, leaf, num(8).val(h), inner} {
		h.Put(outer, wide(strconv.Itoa(i)), x)
	}
	if got, e := ops.Text(h, outer); got != wide("7,7,7,8,7") || e != api.OK {
		t.Errorf("got %q, %d", got, e)
	}
	// The same object is at one place not too deep, and at the next one it is.
	for count := 17; count < 21; count++ {
		h := heap.New(1000)
		leaf := list(num(7)).val(h)
		v := leaf
		for range count {
			around := object("Array").bare().val(h)
			h.Put(around, wide("0"), leaf)
			h.Put(around, wide("1"), v)
			v = around
		}
		want, wantE := wide(strings.Repeat("7,", count)+"7"), api.OK
		if count == 20 {
			want, wantE = "", api.ErrRange
		}
		if got, e := ops.Text(h, v); got != want || e != wantE {
			t.Errorf("%d: got %q, %d", count, got, e)
		}
	}
}

// A text is that of the heap as it is, also if it was another one.
func TestTextOfChanged(t *testing.T) {
	h := heap.New(1000)
	inner := list(num(1)).val(h)
	outer := object("Array").bare().val(h)
	h.Put(outer, wide("0"), inner)
	for _, x := range []string{"a", "", "b"} {
		h.Put(inner, wide("0"), text(x).val(h))
		if got, e := ops.Text(h, outer); got != wide(x) || e != api.OK {
			t.Errorf("got %q, %d, want %q", got, e, x)
		}
	}
	other := heap.New(1000)
	list(text("c")).val(other)
	if got, e := ops.Text(other, inner); got != wide("c") || e != api.OK {
		t.Errorf("another heap: got %q, %d", got, e)
	}
}

// There is more than one way to each of these objects, so that there are more ways
// than can be gone, but each call ends.
func TestTextOfManyWays(t *testing.T) {
	for _, keys := range [][]string{{"name", "message"}, {"0", "1"}} {
		class := map[string]string{"name": "Error", "0": "Array"}[keys[0]]
		for count := 17; count < 21; count++ {
			h := heap.New(100000)
			// A long way to what the innermost one has.
			proto := fault(text(""), text("")).val(h)
			for range 50000 {
				proto, _ = h.Make("Object", proto)
			}
			v, _ := h.Make("Error", proto)
			for range count {
				around := object(class).bare().val(h)
				h.Put(around, wide(keys[0]), v)
				h.Put(around, wide(keys[1]), v)
				v = around
			}
			want := api.OK
			if count == 20 || class == "Array" {
				want = api.ErrRange
			}
			if got, e := ops.Text(h, v); got != "" || e != want {
				t.Errorf("%s %d: got %.200q, %d", class, count, got, e)
			}
		}
	}
}

// Arrays of the greatest length, each of them with the next one at each index.
func TestTextOfGreat(t *testing.T) {
	h := heap.New(100000)
	v := object("Array").bare().val(h)
	h.Put(v, wide("length"), num(1000).val(h))
	for range 30 {
		var l []api.Val
		for range 1000 {
			l = append(l, v)
		}
		v, _ = h.Array(api.Val{Kind: api.Null}, l)
	}
	for n := int64(2); n <= 31; n++ {
		v := api.Val{Kind: api.Ref, N: n}
		if got, e := ops.Text(h, v); got != "" || e != api.ErrRange {
			t.Errorf("%d: got %.200q, %d", n, got, e)
		}
	}
}

// bare is an object that has nothing yet.
func (x thing) bare() thing {
	if x.class == "Error" {
		x.l = []thing{hole, hole}
	}
	return x
}

// random returns a random thing with at most so many objects in one another.
func random(r *rand.Rand, deep int) thing {
	if deep == 0 || r.IntN(4) == 0 {
		return pick(r, undef, null, no, yes, num(r.Int64N(2000)-1000), text(""), text("ab"), text("\uffff"), long(r.IntN(4300)), num(0))
	}
	switch r.IntN(5) {
	case 0:
		return object(pick(r, "Object", "Function", "", "Math"))
	case 1:
		return fault(random(r, deep-1), pick(r, hole, random(r, deep-1)))
	default:
		var l []thing
		for range r.IntN(4) {
			l = append(l, pick(r, hole, null, random(r, deep-1), random(r, deep-1)))
		}
		return list(l...)
	}
}

func pick[T any](r *rand.Rand, l ...T) T {
	return l[r.IntN(len(l))]
}

func TestTextAtRandom(t *testing.T) {
	r := rand.New(rand.NewPCG(12, 1))
	for range 20000 {
		x := nest(random(r, r.IntN(5)), r.IntN(22)*r.IntN(2), pick(r, inList, inName, inMessage), inList)
		h := heap.New(100000)
		want, wantE := x.limited()
		if got, e := ops.Text(h, x.val(h)); got != want || e != wantE {
			t.Fatalf("Text(%v): got %.200q, %d, want %.200q, %d", x, got, e, want, wantE)
		}
	}
}
