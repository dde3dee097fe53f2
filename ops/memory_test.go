package ops_test

import (
	"fmt"
	"math"
	"strings"
	"testing"
	"unsafe"

	"credenza/api"
	"credenza/heap"
	"credenza/ops"
)

func show(x any) string { return fmt.Sprintf("%q\n", x) }

// R1

// invalid are values that may not be, with some that may.
func invalid() []api.Val {
	var l []api.Val
	for _, kind := range []int{math.MinInt64, -1, api.Undef, api.Null, api.Bool, api.Num, api.Text, api.List, api.Record, api.Ref, 8, math.MaxInt64} {
		for _, n := range []int64{0, 1, 2, 3, 100, -1, safe + 1, math.MinInt64, math.MaxInt64} {
			for _, s := range []string{"", "x", "\x00x", "\x001\x00", strings.Repeat("y", 8193)} {
				l = append(l, api.Val{Kind: kind, N: n, S: s})
			}
		}
	}
	return l
}

// heaps are some that a call may be given: none, one that New did not make, one with
// nothing, and one whose objects have values that may not be.
func heaps() []*heap.Heap {
	h := heap.New(100000)
	list(num(1)).val(h)
	fault(hole, hole).val(h)
	object("Object").val(h)
	all := invalid()
	for from := 0; from < len(all); from += 5 {
		l := all[from:min(from+5, len(all))]
		h.Array(api.Val{Kind: api.Null}, l)
		v := fault(hole, hole).val(h)
		h.Put(v, wide("name"), l[0])
		h.Put(v, wide("message"), l[len(l)-1])
	}
	return []*heap.Heap{nil, {}, heap.New(0), h}
}

// Whatever a call is given, it ends and does not panic, and beside an error there is
// nothing.
func TestAnyArguments(t *testing.T) {
	all := invalid()
	for _, h := range heaps() {
		l := all
		if h != nil {
			for n := range int64(300) {
				l = append(l[:len(l):len(l)], api.Val{Kind: api.Ref, N: n})
			}
		}
		for i, a := range l {
			ops.Truthy(a)
			ops.Typeof(h, a)
			if s, e := ops.Text(h, a); e != api.OK && s != "" {
				t.Errorf("Text(%v): got %q, %d", a, s, e)
			}
			if n, e := ops.Number(h, a); e != api.OK && n != 0 {
				t.Errorf("Number(%v): got %d, %d", a, n, e)
			}
			for _, op := range []string{"-", "+", "!", "typeof", "void", "", "x"} {
				if v, e := ops.Unary(h, op, a); e != api.OK && v != (api.Val{}) {
					t.Errorf("%s %v: got %v, %d", op, a, v, e)
				}
			}
			for j := range 40 {
				anyPair(t, h, a, l[(i*7+j*j*13)%len(l)])
			}
		}
	}
}

func anyPair(t *testing.T, h *heap.Heap, a, b api.Val) {
	t.Helper()
	ops.Strict(a, b)
	if is, e := ops.Loose(h, a, b); e != api.OK && is {
		t.Errorf("Loose(%v, %v): got %v, %d", a, b, is, e)
	}
	for _, op := range append(operators(), "", "x") {
		if v, e := ops.Binary(h, op, a, b); e != api.OK && v != (api.Val{}) {
			t.Errorf("%v %s %v: got %v, %d", a, op, b, v, e)
		}
	}
}

// R2

func shares(a, b string) bool {
	return a != "" && b != "" && unsafe.StringData(a) == unsafe.StringData(b)
}

// No text that is answered shares memory with what was given, or with another one.
func TestMemory(t *testing.T) {
	l := []thing{undef, null, yes, num(12), text("ab"), long(4096), object("Object"), object("Function"), list(text("ab")), list(num(1), num(2)), fault(text("ab"), hole), fault(text(""), text("ab"))}
	h, v := made(l...)
	empty := api.Val{Kind: api.Text}
	for i, a := range v {
		one, _ := ops.Text(h, a)
		two, _ := ops.Text(h, a)
		if shares(one, two) || shares(one, a.S) {
			t.Errorf("Text(%v) is shared", l[i])
		}
		for _, two := range [][2]api.Val{{a, empty}, {empty, a}} {
			x, _ := ops.Binary(h, "+", two[0], two[1])
			y, _ := ops.Binary(h, "+", two[0], two[1])
			if x.S != one || shares(x.S, y.S) || shares(x.S, a.S) {
				t.Errorf("the sum with %v is shared", l[i])
			}
		}
		x, _ := ops.Unary(h, "typeof", a)
		y, _ := ops.Unary(h, "typeof", a)
		if shares(x.S, y.S) {
			t.Errorf("typeof %v is shared", l[i])
		}
	}
}

// R5

// What a call answers does not hang on the heap's calls for other objects, or on
// another heap.
func TestIndependence(t *testing.T) {
	h, v := made(list(num(1)), fault(text("a"), text("b")))
	other, w := made(list(num(2)), fault(text("c"), text("d")))
	for range 3 {
		for _, x := range []struct {
			h    *heap.Heap
			v    api.Val
			want string
		}{{h, v[0], "1"}, {other, w[0], "2"}, {h, v[1], "a: b"}, {other, w[1], "c: d"}} {
			if got, e := ops.Text(x.h, x.v); got != wide(x.want) || e != api.OK {
				t.Errorf("got %q, %d, want %q", got, e, x.want)
			}
		}
	}
}
