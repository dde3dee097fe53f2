package heap_test

import (
	"math"
	"slices"
	"strconv"
	"strings"
	"testing"
	"unsafe"

	"credenza/api"
	"credenza/heap"
)

// wide returns s as units.
func wide(s string) string {
	var u []byte
	for i := range len(s) {
		u = append(u, 0, s[i])
	}
	return string(u)
}

// narrow is the inverse of wide, for what wide answered.
func narrow(u string) string {
	var s []byte
	for i := 1; i < len(u); i += 2 {
		s = append(s, u[i])
	}
	return string(s)
}

func num(n int64) api.Val   { return api.Val{Kind: api.Num, N: n} }
func ref(n int64) api.Val   { return api.Val{Kind: api.Ref, N: n} }
func text(s string) api.Val { return api.Val{Kind: api.Text, S: wide(s)} }

var null = api.Val{Kind: api.Null}

// value is the value that a script tells: a number, #n for an object, undefined,
// null, or else a text.
func value(s string) api.Val {
	switch n, err := strconv.ParseInt(strings.TrimPrefix(s, "#"), 10, 64); {
	case s == "undefined":
		return api.Val{}
	case s == "null":
		return null
	case err != nil:
		return text(s)
	case s[0] == '#':
		return ref(n)
	default:
		return num(n)
	}
}

func said(v api.Val) string {
	switch v.Kind {
	case api.Undef:
		return "undefined"
	case api.Null:
		return "null"
	case api.Text:
		return narrow(v.S)
	case api.Ref:
		return "#" + strconv.FormatInt(v.N, 10)
	}
	return strconv.FormatInt(v.N, 10)
}

func values(l []string) []api.Val {
	var vals []api.Val
	for _, s := range l {
		vals = append(vals, value(s))
	}
	return vals
}

// prop is the property with the key, the value and the flags that a script tells:
// w for writable, e for enumerable, c for configurable.
func prop(key, v, flags string) api.Prop {
	return api.Prop{
		Key:   wide(key),
		V:     value(v),
		Write: strings.Contains(flags, "w"),
		Enum:  strings.Contains(flags, "e"),
		Free:  strings.Contains(flags, "c"),
	}
}

// show tells a property as a text, such as "a=1wec".
func show(p api.Prop) string {
	s := narrow(p.Key) + "=" + said(p.V)
	for i, is := range []bool{p.Write, p.Enum, p.Free} {
		if is {
			s += "wec"[i : i+1]
		}
	}
	return s
}

// tell tells an object as a text: its class, its prototype if it has one, whether
// it is closed, the length of an Array, and its properties.
func tell(h *heap.Heap, v api.Val) string {
	l := []string{h.Class(v)}
	if p := h.Proto(v); p != null {
		l = append(l, "<"+said(p))
	}
	if !h.IsOpen(v) {
		l = append(l, "closed")
	}
	if _, ok := h.Len(v); ok {
		p, _ := h.Own(v, wide("length"))
		l = append(l, show(p))
	}
	l = append(l, ":")
	for _, key := range h.Keys(v) {
		p, _ := h.Own(v, key)
		l = append(l, show(p))
	}
	return strings.Join(l, " ")
}

// run does what a script tells, with the object that the step ahead made or chose,
// and returns what Put, Define and Delete answered, and this object. Steps are
// parted by semicolons.
func run(h *heap.Heap, script string) (string, api.Val) {
	var v api.Val
	var answers []string
	for step := range strings.SplitSeq(script, ";") {
		e := api.Errno(-1)
		switch f := strings.Fields(step); f[0] {
		case "make": // class, prototype
			v, _ = h.Make(f[1], value(f[2]))
		case "array": // prototype, elements
			v, _ = h.Array(value(f[1]), values(f[2:]))
		case "on": // object
			v = value(f[1])
		case "close":
			h.Close(v)
		case "put": // key, value
			e = h.Put(v, wide(f[1]), value(f[2]))
		case "def": // key, value, flags
			e = h.Define(v, prop(f[1], f[2], f[3]))
		case "del": // key
			e = h.Delete(v, wide(f[1]))
		default:
			panic(step)
		}
		if e >= 0 {
			answers = append(answers, strconv.Itoa(int(e)))
		}
	}
	return strings.Join(answers, " "), v
}

// story is a script, what it answers, and the object at its end.
type story struct{ script, answers, object string }

func (s story) check(t *testing.T) {
	t.Helper()
	h := heap.New(100)
	answers, v := run(h, s.script)
	if got := tell(h, v); answers != s.answers || got != s.object {
		t.Errorf("%s:\n got %s, %s\nwant %s, %s", s.script, answers, got, s.answers, s.object)
	}
}

// P11.1

func TestCells(t *testing.T) {
	for _, x := range []struct{ most, want int }{
		{0, 0}, {-1, 0}, {math.MinInt64, 0}, {1, 1}, {2, 2}, {99999, 99999}, {100000, 100000}, {100001, 100000}, {math.MaxInt64, 100000},
	} {
		h := heap.New(x.most)
		if h.Used() != 0 {
			t.Errorf("New(%d): %d cells are used", x.most, h.Used())
		}
		for i := range x.want {
			if !h.Take() || h.Used() != i+1 {
				t.Fatalf("New(%d): cell %d: %d are used", x.most, i, h.Used())
			}
		}
		for range 2 {
			if h.Take() || h.Used() != x.want {
				t.Errorf("New(%d): there is a cell behind the last one, %d are used", x.most, h.Used())
			}
		}
	}
}

func TestCellsAreNotGivenBack(t *testing.T) {
	h := heap.New(5)
	v, _ := h.Make("A", null)
	for i := range 4 {
		if e := h.Put(v, wide("a"), null); e != api.OK || h.Used() != i+2 {
			t.Fatalf("Put: got %d, %d cells are used", e, h.Used())
		}
		if e := h.Delete(v, wide("a")); e != api.OK || h.Used() != i+2 {
			t.Fatalf("Delete: got %d, %d cells are used", e, h.Used())
		}
	}
	if e := h.Put(v, wide("a"), null); e != api.ErrHeap {
		t.Errorf("Put: got %d", e)
	}
}

// What each call takes, and that it takes nothing if it fails.
func TestCellsOfCalls(t *testing.T) {
	h := heap.New(100)
	used := 0
	takes := func(what string, n int) {
		t.Helper()
		if used += n; h.Used() != used {
			t.Fatalf("%s: %d cells are used, want %d", what, h.Used(), used)
		}
	}
	a, _ := h.Make("Array", null)
	takes("Make", 1)
	h.Array(null, nil)
	takes("Array of none", 1)
	h.Array(null, make([]api.Val, 3))
	takes("Array of three", 4)
	h.Array(null, make([]api.Val, 1001))
	takes("Array of too many", 0)
	h.Put(a, wide("5"), null)
	takes("Put of a new one", 1)
	h.Put(a, wide("5"), num(1))
	takes("Put of an old one", 0)
	h.Put(a, wide("1000"), null)
	takes("Put beyond", 0)
	h.Put(a, wide("length"), num(9))
	takes("Put of length", 0)
	h.Define(a, prop("a", "1", ""))
	takes("Define of a new one", 1)
	h.Define(a, prop("a", "1", ""))
	takes("Define of an old one", 0)
	h.Define(a, prop("length", "8", ""))
	takes("Define of length", 0)
	h.Put(a, wide("9"), null)
	takes("Put behind a fixed length", 0)
	h.Delete(a, wide("5"))
	takes("Delete", 0)
	h.Put(a, wide("5"), null)
	takes("Put again", 1)
	h.Close(a)
	h.Put(a, wide("6"), null)
	takes("Put to a closed one", 0)
	h.Put(null, wide("6"), null)
	takes("Put to none", 0)
}

// P11.2

func TestMake(t *testing.T) {
	h := heap.New(4)
	for i, x := range []struct {
		class string
		proto api.Val
		want  string
	}{
		{"Object", null, "Object :"},
		{"", ref(1), " <#1 :"},
		{"Array", ref(2), "Array <#2 length=0w :"},
		{"array", ref(4), "array :"}, // it is not there yet
	} {
		v, ok := h.Make(x.class, x.proto)
		if v != ref(int64(i)+1) || !ok || tell(h, v) != x.want {
			t.Errorf("Make(%q): got %v, %v: %s", x.class, v, ok, tell(h, v))
		}
	}
	if v, ok := h.Make("Object", null); v != (api.Val{}) || ok || h.Used() != 4 {
		t.Errorf("Make without a cell: got %v, %v", v, ok)
	}
	if h.Class(ref(5)) != "" {
		t.Errorf("there is an object without a cell")
	}
}

func TestMakeBetweenCells(t *testing.T) {
	h := heap.New(6)
	h.Take()
	a, _ := h.Make("A", null)
	h.Take()
	h.Put(a, wide("a"), null)
	if b, ok := h.Make("B", a); b != ref(2) || !ok || h.Proto(b) != a {
		t.Errorf("got %v, %v", b, ok)
	}
}

func TestArray(t *testing.T) {
	for _, x := range []struct{ script, want string }{
		{"array null", "Array length=0w :"},
		{"array null 1 a", "Array length=2w : 0=1wec 1=awec"},
		{"array #1 undefined", "Array length=1w : 0=undefinedwec"},
		{"make A null; array #1 #2 null", "Array <#1 length=2w : 0=#2wec 1=nullwec"},
	} {
		story{x.script, "", x.want}.check(t)
	}
}

func TestArrayOfMany(t *testing.T) {
	for _, count := range []int{0, 1, 9, 10, 11, 999, 1000, 1001, 2000} {
		for _, most := range []int{0, count - 1, count, count + 1, count + 2, 100000} {
			h := heap.New(most)
			l := make([]api.Val, count)
			for i := range l {
				l[i] = num(int64(7 * i))
			}
			v, ok := h.Array(null, l)
			if want := count <= 1000 && most > count; ok != want {
				t.Fatalf("%d elements, %d cells: got %v", count, most, ok)
			}
			if !ok {
				if v != (api.Val{}) || h.Used() != 0 || h.Class(ref(1)) != "" {
					t.Errorf("%d elements, %d cells: got %v, %d cells are used", count, most, v, h.Used())
				}
				continue
			}
			if n, is := h.Len(v); n != count || !is || v != ref(1) || h.Used() != count+1 {
				t.Errorf("%d elements: got %v, length %d, %v, %d cells are used", count, v, n, is, h.Used())
			}
			for i, key := range h.Keys(v) {
				p, is := h.Own(v, key)
				if p != prop(strconv.Itoa(i), strconv.Itoa(7*i), "wec") || !is {
					t.Fatalf("%d elements: element %d: got %v, %v", count, i, p, is)
				}
			}
		}
	}
}

// P11.3

// none are values that denote no object of a heap with three of them.
func none() []api.Val {
	l := []api.Val{
		{}, null, {Kind: api.Bool, N: 1}, num(1), {Kind: api.Text, N: 1}, text("a"), {Kind: 5, N: 1}, {Kind: 6, N: 1}, {Kind: 8, N: 1}, {Kind: -1, N: 1},
		{Kind: api.Ref, N: 1, S: "a"}, {Kind: api.Ref, N: 1, S: wide("a")}, {Kind: math.MaxInt64, N: 1}, {Kind: math.MinInt64, N: 1},
	}
	for _, n := range []int64{0, -1, -3, 4, 5, 1 << 32, 1<<32 + 1, math.MaxInt64, math.MinInt64, math.MinInt64 + 1} {
		l = append(l, ref(n))
	}
	return l
}

func three() *heap.Heap {
	h := heap.New(100)
	run(h, "make A null; put a 1; make B #1; array #2 1 2")
	return h
}

func TestNoObject(t *testing.T) {
	h := three()
	for _, v := range none() {
		checkNoObject(t, h, v)
		h := three()
		if made, _ := h.Make("C", v); h.Proto(made) != null {
			t.Errorf("%v is a prototype", v)
		}
		h = three()
		if made, _ := h.Array(v, nil); h.Proto(made) != null {
			t.Errorf("%v is a prototype of an Array", v)
		}
	}
}

func checkNoObject(t *testing.T, h *heap.Heap, v api.Val) {
	t.Helper()
	if h.Class(v) != "" || h.Proto(v) != null || h.IsOpen(v) || h.Close(v) || len(h.Keys(v)) != 0 || len(h.Enum(v)) != 0 {
		t.Errorf("%v is an object", v)
	}
	if n, ok := h.Len(v); n != 0 || ok {
		t.Errorf("Len(%v): got %d, %v", v, n, ok)
	}
	for _, key := range []string{"", "a", wide("a"), wide("0"), wide("length")} {
		if p, ok := h.Own(v, key); p != (api.Prop{}) || ok {
			t.Errorf("Own(%v, %q): got %v, %v", v, key, p, ok)
		}
		if x, ok := h.Get(v, key); x != (api.Val{}) || ok {
			t.Errorf("Get(%v, %q): got %v, %v", v, key, x, ok)
		}
		if e := h.Put(v, key, num(1)); e != api.ErrType {
			t.Errorf("Put(%v, %q): got %d", v, key, e)
		}
		if e := h.Define(v, api.Prop{Key: key}); e != api.ErrType {
			t.Errorf("Define(%v, %q): got %d", v, key, e)
		}
		if e := h.Delete(v, key); e != api.ErrType {
			t.Errorf("Delete(%v, %q): got %d", v, key, e)
		}
	}
}

// R1: a heap that New did not make has no cells and no objects.
func TestNoHeap(t *testing.T) {
	for _, h := range []*heap.Heap{nil, {}, heap.New(0)} {
		for _, v := range append(none(), ref(1)) {
			checkNoObject(t, h, v)
			if made, ok := h.Make("A", v); made != (api.Val{}) || ok {
				t.Errorf("Make: got %v, %v", made, ok)
			}
			if made, ok := h.Array(v, nil); made != (api.Val{}) || ok {
				t.Errorf("Array: got %v, %v", made, ok)
			}
		}
		if h.Take() || h.Used() != 0 {
			t.Errorf("there is a cell")
		}
	}
}

func TestQueries(t *testing.T) {
	h := heap.New(100)
	run(h, "make A null; put a 1; def b 2 w; put c undefined; make B #1; put a 3; def d x ec; array #2 y; put length 3")
	for _, x := range []struct {
		n       int64
		class   string
		proto   api.Val
		length  int
		isArray bool
		key     string
		own     api.Prop
		isOwn   bool
		got     api.Val
		isThere bool
	}{
		{1, "A", null, 0, false, "a", prop("a", "1", "wec"), true, num(1), true},
		{1, "A", null, 0, false, "b", prop("b", "2", "w"), true, num(2), true},
		{1, "A", null, 0, false, "c", prop("c", "undefined", "wec"), true, api.Val{}, true},
		{1, "A", null, 0, false, "d", api.Prop{}, false, api.Val{}, false},
		{1, "A", null, 0, false, "length", api.Prop{}, false, api.Val{}, false},
		{2, "B", ref(1), 0, false, "a", prop("a", "3", "wec"), true, num(3), true},
		{2, "B", ref(1), 0, false, "b", api.Prop{}, false, num(2), true},
		{2, "B", ref(1), 0, false, "c", api.Prop{}, false, api.Val{}, true},
		{2, "B", ref(1), 0, false, "d", prop("d", "x", "ec"), true, text("x"), true},
		{3, "Array", ref(2), 3, true, "a", api.Prop{}, false, num(3), true},
		{3, "Array", ref(2), 3, true, "b", api.Prop{}, false, num(2), true},
		{3, "Array", ref(2), 3, true, "0", prop("0", "y", "wec"), true, text("y"), true},
		{3, "Array", ref(2), 3, true, "1", api.Prop{}, false, api.Val{}, false},
		{3, "Array", ref(2), 3, true, "length", prop("length", "3", "w"), true, num(3), true},
		{3, "Array", ref(2), 3, true, "", api.Prop{}, false, api.Val{}, false},
	} {
		v := ref(x.n)
		if h.Class(v) != x.class || h.Proto(v) != x.proto {
			t.Errorf("%d: got %q, %v", x.n, h.Class(v), h.Proto(v))
		}
		if n, ok := h.Len(v); n != x.length || ok != x.isArray {
			t.Errorf("Len of %d: got %d, %v", x.n, n, ok)
		}
		if p, ok := h.Own(v, wide(x.key)); p != x.own || ok != x.isOwn {
			t.Errorf("Own of %d, %s: got %v, %v", x.n, x.key, p, ok)
		}
		if got, ok := h.Get(v, wide(x.key)); got != x.got || ok != x.isThere {
			t.Errorf("Get of %d, %s: got %v, %v", x.n, x.key, got, ok)
		}
	}
}

// `length` denotes that of an Array only as units, and only as a whole.
func TestLengthKey(t *testing.T) {
	h := heap.New(100)
	v, _ := h.Array(null, nil)
	for _, key := range []string{"length", "", wide("length") + "\x00", wide("Length"), wide("lengt"), wide("length ")} {
		if _, ok := h.Own(v, key); ok {
			t.Errorf("%q denotes the length", key)
		}
		if e := h.Put(v, key, text("x")); e != api.OK {
			t.Errorf("Put of %q: got %d", key, e)
		}
		if e := h.Delete(v, key); e != api.OK {
			t.Errorf("Delete of %q: got %d", key, e)
		}
	}
	// Another object has no length, but may have a property with this key.
	story{"make A null; put length x; put length -1; def length 2 ec", "0 0 0", "A : length=2ec"}.check(t)
	story{"make A null; put length 5; del length; close", "0 0", "A closed :"}.check(t)
}

func TestClose(t *testing.T) {
	h := three()
	for range 2 {
		if !h.Close(ref(2)) || h.IsOpen(ref(2)) {
			t.Errorf("2 is open")
		}
	}
	if !h.IsOpen(ref(1)) || !h.IsOpen(ref(3)) {
		t.Errorf("1 or 3 is closed")
	}
}

// P11.4

func TestPut(t *testing.T) {
	for _, x := range []story{
		// The length of an Array.
		{"array null 1 2; put length 3", "0", "Array length=3w : 0=1wec 1=2wec"},
		{"array null 1 2; put length 2", "0", "Array length=2w : 0=1wec 1=2wec"},
		{"array null 1 2; put length 1", "0", "Array length=1w : 0=1wec"},
		{"array null 1 2; put length 0", "0", "Array length=0w :"},
		{"array null 1 2; put length 1000", "0", "Array length=1000w : 0=1wec 1=2wec"},
		{"array null 1 2; put length 1001", "100", "Array length=2w : 0=1wec 1=2wec"},
		{"array null 1 2; put length -1", "100", "Array length=2w : 0=1wec 1=2wec"},
		{"array null 1 2; put length 4294967296", "100", "Array length=2w : 0=1wec 1=2wec"},
		{"array null 1 2; put length 1x", "100", "Array length=2w : 0=1wec 1=2wec"},
		{"array null 1 2; put length undefined", "100", "Array length=2w : 0=1wec 1=2wec"},
		{"array null 1 2; put length null", "100", "Array length=2w : 0=1wec 1=2wec"},
		{"array null 1 2; put length #1", "100", "Array length=2w : 0=1wec 1=2wec"},
		{"array null 1; def length 1 -; put length 1; put length 2; put length x", "0 110 110 110", "Array length=1 : 0=1wec"},
		{"array null 1; close; put length 0; put length 9", "0 0", "Array closed length=9w :"},
		// Truncating.
		{"array null 1 2 3 4; put a 5; def 1 x we; put length 0", "0 0 110", "Array length=2w : 0=1wec 1=xwe a=5wec"},
		{"array null 1 2 3 4; def 1 x w; def 2 y w; put length 0", "0 0 110", "Array length=3w : 0=1wec 1=xw 2=yw"},
		{"array null 1 2 3 4; def 1 x -; put length 2", "0 0", "Array length=2w : 0=1wec 1=x"},
		{"array null; def 9 x -; put length 9", "0 110", "Array length=10w : 9=x"},
		{"array null; put 9 1; put 10 2; put 100 3; put 2 4; put length 10", "0 0 0 0 0", "Array length=10w : 9=1wec 2=4wec"},
		{"array null; put 999 1; put 0 2; put 01 3; put -0 4; put length 0; put 0 5", "0 0 0 0 0 0", "Array length=1w : 01=3wec -0=4wec 0=5wec"},
		{"array null 1 2 3; def 0 x -; put length 0; put length 0", "0 110 110", "Array length=1w : 0=x"},
		// An own property.
		{"make A null; put a 1; put b 2; put a 3", "0 0 0", "A : a=3wec b=2wec"},
		{"make A null; def a 1 w; put a x", "0 0", "A : a=xw"},
		{"make A null; def a 1 we; put a x", "0 0", "A : a=xwe"},
		{"make A null; def a 1 wc; put a x", "0 0", "A : a=xwc"},
		{"make A null; def a 1 ec; put a x; put a 1", "0 110 110", "A : a=1ec"},
		{"make A null; put a 1; close; put a 2", "0 0", "A closed : a=2wec"},
		{"array null 1 2; put 1 3; put 0 4", "0 0", "Array length=2w : 0=4wec 1=3wec"},
		{"array null 1 2; def length 2 -; put 1 3", "0 0", "Array length=2 : 0=1wec 1=3wec"},
		{"make A null; def a 1 -; make B #1; def a 2 w; put a 3", "0 0 0", "B <#1 : a=3w"},
		// The chain of prototypes.
		{"make A null; put a 1; make B #1; put a 2", "0 0", "B <#1 : a=2wec"},
		{"make A null; def a 1 ec; make B #1; put a 2", "0 110", "B <#1 :"},
		{"make A null; def a 1 ec; make B #1; make C #2; put a 2", "0 110", "C <#2 :"},
		{"make A null; def a 1 ec; make B #1; def a 2 w; make C #2; put a 3", "0 0 0", "C <#2 : a=3wec"},
		{"make A null; put a 1; make B #1; def a 2 -; make C #2; put a 3", "0 0 110", "C <#2 :"},
		{"make A null; def a 1 -; make B #1; put b 2", "0 0", "B <#1 : b=2wec"},
		{"make A null; put a 1; close; make B #1; put a 2; put b 3", "0 0 0", "B <#1 : a=2wec b=3wec"},
		{"array null 1; make B #1; put length x; put 0 y", "0 0", "B <#1 : length=xwec 0=ywec"},
		{"array null 1; def length 1 -; make B #1; put length x; put 0 y; put 7 z", "0 110 0 0", "B <#1 : 0=ywec 7=zwec"},
		{"array null 1; def length 1 -; array #1; put length 5", "0 0", "Array <#1 length=5w :"},
		{"make A null; put a 1; make B #1; put a 2; on #1", "0 0", "A : a=1wec"},
		// Adding.
		{"make A null; close; put a 1", "110", "A closed :"},
		{"make A null; put 1000 1; put 5 2", "0 0", "A : 1000=1wec 5=2wec"},
		{"array null; put 999 1; put 1000 2; put 1001 3; put 999999999 4; put 1000000000 5; put 01000 6", "0 100 100 100 0 0", "Array length=1000w : 999=1wec 1000000000=5wec 01000=6wec"},
		{"array null; put 5 1; put 3 2; put a 3; put 0 4", "0 0 0 0", "Array length=6w : 5=1wec 3=2wec a=3wec 0=4wec"},
		{"array null 1; def length 1 -; put 1 2; put a 3", "0 110 0", "Array length=1 : 0=1wec a=3wec"},
		{"array null 1 2; del 0; def length 2 -; put 0 3; put 2 4", "0 0 0 110", "Array length=2 : 1=2wec 0=3wec"},
		{"array null; close; put 1000 1; put 0 1; put a 1", "110 110 110", "Array closed length=0w :"},
		{"array null; def length 0 -; put 1000 1; put 999 1; put 0 1", "0 100 110 110", "Array length=0 :"},
		{"array null; close; def length 0 -; put 1000 1", "0 110", "Array closed length=0 :"},
	} {
		x.check(t)
	}
}

// ErrHeap comes behind all other errors, and only where a cell is to be taken.
func TestNoCellLeft(t *testing.T) {
	const nine = "make A null; array null 1; array null 1; def length 1 -; array null; close; make B #1; on #1; def a 1 -; def b 2 w"
	for _, x := range []story{
		{"on #1; put c 1; put b 3; put a 4", "111 0 110", "A : a=1 b=3w"},
		{"on #2; put 1 1; put a 1; put 1000 1; put 0 2; put length 5", "111 111 100 0 0", "Array length=5w : 0=2wec"},
		{"on #2; def 1 1 -; def a 1 -; def 1000 1 -; def 0 2 -; def length 3 -; def 3 1 -", "111 111 100 0 0 110", "Array length=3 : 0=2"},
		{"on #3; put 1 1; put a 1; put 0 2; del 0; put 0 2", "110 111 0 0 111", "Array length=1 :"},
		{"on #4; put 1 1; put a 1; def a 1 -; def 1000 1 -", "110 110 110 110", "Array closed length=0w :"},
		{"on #5; put a 1; put b 1; def a 1 -", "110 111 111", "B <#1 :"},
	} {
		h := heap.New(9)
		run(h, nine)
		if h.Used() != 9 {
			t.Fatalf("%d cells are used", h.Used())
		}
		answers, v := run(h, x.script)
		if got := tell(h, v); answers != x.answers || got != x.object || h.Used() != 9 {
			t.Errorf("%s:\n got %s, %s\nwant %s, %s", x.script, answers, got, x.answers, x.object)
		}
	}
}

// P11.5

func TestDefine(t *testing.T) {
	for _, x := range []story{
		// The length of an Array.
		{"array null 1 2; def length 3 w", "0", "Array length=3w : 0=1wec 1=2wec"},
		{"array null 1 2; def length 1 w", "0", "Array length=1w : 0=1wec"},
		{"array null 1 2; def length 1 -; def length 1 -", "0 0", "Array length=1 : 0=1wec"},
		{"array null 1 2; def length 1000 -", "0", "Array length=1000 : 0=1wec 1=2wec"},
		{"array null 1 2; def length 1001 -; def length -1 -; def length x -; def length undefined -; def length #1 -", "100 100 100 100 100", "Array length=2w : 0=1wec 1=2wec"},
		{"array null 1 2; def length 2 e; def length 2 c; def length 2 wec; def length x e; def length x c", "110 110 110 110 110", "Array length=2w : 0=1wec 1=2wec"},
		{"array null 1 2; def length 2 -; def length 2 w; def length 1 -; def length 3 -; def length x -; def length 1001 -; def length 2 e; def length 2 c", "0 110 110 110 110 110 110 110", "Array length=2 : 0=1wec 1=2wec"},
		{"array null 1 2 3; def 1 x we; def length 0 -", "0 110", "Array length=2w : 0=1wec 1=xwe"},
		{"array null 1 2 3; def 1 x we; def length 2 -", "0 0", "Array length=2 : 0=1wec 1=xwe"},
		{"array null 1; close; def length 0 -", "0", "Array closed length=0 :"},
		// An own property that is configurable.
		{"make A null; put a 1; put b 2; put c 3; def b x -", "0 0 0 0", "A : a=1wec b=x c=3wec"},
		{"make A null; def a 1 c; def a 2 wec; def a 3 e", "0 0 0", "A : a=3e"},
		{"make A null; put a 1; close; def a 2 w", "0 0", "A closed : a=2w"},
		{"array null 1; def length 1 -; def 0 x we", "0 0", "Array length=1 : 0=xwe"},
		// One that is not.
		{"make A null; def a 1 w; def a 2 w; def a 3 -", "0 0 0", "A : a=3"},
		{"make A null; def a 1 we; def a 2 we; def a 3 e", "0 0 0", "A : a=3e"},
		{"make A null; def a 1 we; def a 1 wec; def a 1 ec; def a 1 w; def a 1 -", "0 110 110 110 110", "A : a=1we"},
		{"make A null; def a 1 w; def a 1 wc; def a 1 c; def a 1 we; def a 1 e", "0 110 110 110 110", "A : a=1w"},
		{"make A null; def a 1 -; def a 1 -; def a 2 -; def a 1 w; def a 2 w; def a 1 e; def a 1 c", "0 0 110 110 110 110 110", "A : a=1"},
		{"make A null; def a 1 e; def a 1 e; def a x e; def a 1 we; def a 1 -; def a 1 ec", "0 0 110 110 110 110", "A : a=1e"},
		{"make A null; def a 1 -; def a #1 -; def a 1x -; def a null -", "0 110 110 110", "A : a=1"},
		{"make A null; def a 1 -; close; def a 1 -; def a 2 -", "0 0 110", "A closed : a=1"},
		// One that is added.
		{"make A null; def a 1 -; def b 2 w; def c 3 e; def d 4 c; def e 5 wec; def f 6 we", "0 0 0 0 0 0", "A : a=1 b=2w c=3e d=4c e=5wec f=6we"},
		{"make A null; def a 1 -; make B #1; def a 2 ec", "0 0", "B <#1 : a=2ec"},
		{"make A null; close; def a 1 wec", "110", "A closed :"},
		{"array null; def 3 1 -; def 1000 1 -; def a 1 -", "0 100 0", "Array length=4w : 3=1 a=1"},
		{"array null 1; def length 1 -; def 1 2 -; def 1000 2 -; def a 3 -", "0 110 100 0", "Array length=1 : 0=1wec a=3"},
		{"array null; close; def 1000 1 -", "110", "Array closed length=0w :"},
	} {
		x.check(t)
	}
}

// Every property that there may be, and every one to which it may be changed.
func TestDefineEach(t *testing.T) {
	flags := []string{"-", "w", "e", "c", "we", "wc", "ec", "wec"}
	has := func(f, flag string) bool { return strings.Contains(f, flag) }
	for _, from := range flags {
		for _, to := range flags {
			for _, x := range []string{"1", "2"} {
				h := heap.New(100)
				_, v := run(h, "make A null; put z 0; def a 1 "+from+"; put b 0")
				want := api.OK
				same := x == "1"
				if !has(from, "c") && (has(to, "c") || has(from, "e") != has(to, "e") || !has(from, "w") && (has(to, "w") || !same)) {
					want = api.ErrType
				}
				e := h.Define(v, prop("a", x, to))
				kept := "a=1" + strings.Trim(from, "-")
				if want == api.OK {
					kept = "a=" + x + strings.Trim(to, "-")
				}
				if got := tell(h, v); e != want || got != "A : z=0wec "+kept+" b=0wec" {
					t.Errorf("%s to %s, %s: got %d, %s", from, to, x, e, got)
				}
			}
		}
	}
}

// A value is different if anything of it is.
func TestDifferentValues(t *testing.T) {
	l := []api.Val{{}, null, num(0), num(1), num(-1), {Kind: api.Bool}, {Kind: api.Bool, N: 1}, {Kind: api.Text}, text("a"), text("b"), ref(1), ref(2), {Kind: api.Ref, N: 1, S: "a"}, {Kind: 9}}
	for _, a := range l {
		for _, b := range l {
			h := three()
			p := api.Prop{Key: wide("k"), V: a}
			if e := h.Define(ref(1), p); e != api.OK {
				t.Fatalf("%v: got %d", a, e)
			}
			e := h.Define(ref(1), api.Prop{Key: wide("k"), V: b})
			if (e == api.OK) != (a == b) || e != api.OK && e != api.ErrType {
				t.Errorf("%v, then %v: got %d", a, b, e)
			}
			if got, ok := h.Own(ref(1), wide("k")); got != p || !ok {
				t.Errorf("%v, then %v: got %v", a, b, got)
			}
		}
	}
}

// P11.6

func TestDelete(t *testing.T) {
	for _, x := range []story{
		{"make A null; put a 1; put b 2; put c 3; del b; del b", "0 0 0 0 0", "A : a=1wec c=3wec"},
		{"make A null; put a 1; put b 2; put c 3; del a; put a 4", "0 0 0 0 0", "A : b=2wec c=3wec a=4wec"},
		{"make A null; put a 1; put b 2; put c 3; del c; put d 4", "0 0 0 0 0", "A : a=1wec b=2wec d=4wec"},
		{"make A null; put a 1; del a; put b 2; del b; del a", "0 0 0 0 0", "A :"},
		{"make A null; del a; del length", "0 0", "A :"},
		{"make A null; def a 1 we; def b 2 c; del a; del b", "0 0 110 0", "A : a=1we"},
		{"make A null; put a 1; close; del a; put a 1", "0 0 110", "A closed :"},
		{"make A null; put a 1; make B #1; del a; on #1", "0 0", "A : a=1wec"},
		{"make A null; def a 1 -; make B #1; del a", "0 0", "B <#1 :"},
		{"array null 1 2; del length; del 1; del 5; del 1000", "110 0 0 0", "Array length=2w : 0=1wec"},
		{"array null 1 2; del 0; put length 1; put 0 3", "0 0 0", "Array length=1w : 0=3wec"},
		{"array null 1 2; def length 2 -; del 1; del length; put 1 3; put 2 4", "0 0 110 0 110", "Array length=2 : 0=1wec 1=3wec"},
		{"make A null; put a 1; def a 2 -; del a; del a", "0 0 110 110", "A : a=2"},
		{"make A null; def a 1 c; def a 2 wec; del a", "0 0 0", "A :"},
	} {
		x.check(t)
	}
}

func TestKeys(t *testing.T) {
	for _, x := range []struct{ script, want string }{
		{"make A null", ""},
		{"make A null; put b 1; put a 2; def c 3 -; put 1 4; put 0 5", "b a c 1 0"},
		{"make A null; put length 1; put a 2", "length a"},
		{"make A null; put a 1; make B #1; put b 2", "b"},
		{"array null 1 2", "0 1"},
		{"array null 1 2; put a 3; del 0; put 0 4", "1 a 0"},
		{"array null 1 2 3; put length 1; put length 9", "0"},
		{"array null; put 5 1; put length 1000", "5"},
	} {
		h := heap.New(100)
		_, v := run(h, x.script)
		checkKeys(t, x.script, h.Keys(v), x.want)
	}
}

func checkKeys(t *testing.T, what string, l []string, want string) {
	t.Helper()
	var got []string
	for _, key := range l {
		got = append(got, narrow(key))
	}
	if !slices.Equal(got, strings.Fields(want)) {
		t.Errorf("%s: got %v, want %s", what, got, want)
	}
}

func TestEnum(t *testing.T) {
	for _, x := range []struct{ script, want string }{
		{"make A null", ""},
		{"make A null; put b 1; def c 2 wc; put a 3; def d 4 e", "b a d"},
		{"make A null; put b 1; put a 2; make B #1; put c 3; put a 4", "c a b"},
		{"make A null; put a 1; put b 1; make B #1; def a 2 wc", "b"},
		{"make A null; def a 1 wc; put b 1; make B #1; put a 2", "a b"},
		{"make A null; put a 1; make B #1; def a 2 -; make C #2; put b 3", "b"},
		{"make A null; put a 1; make B #1; make C #2; put b 3", "b a"},
		{"make A null; put z 1; put a 1; make B #1; put y 1; put a 1; make C #2; put x 1; put a 1", "x a y z"},
		{"array null 1 2", "0 1"},
		{"array null 1 2; array #1 1 2 3; del 1", "0 2 1"},
		{"make A null; put length 1; put a 1; array #1 5", "0 a"},
		{"make A null; put length 1; put a 1; array #1 5; make B #2; put b 1", "b 0 a"},
		{"array null 1; make B #1; put length 1", "length 0"},
		{"make A null; put length 1; make B #1; put b 1", "b length"},
		{"make A null; put a 1; close; make B #1; close", "a"},
		{"make A null; put a 1; make B #1; put a 2; del a", "a"},
		{"make A null; put a 1; make B #1; put b 2; on #1", "a"},
	} {
		h := heap.New(100)
		_, v := run(h, x.script)
		checkKeys(t, x.script, h.Enum(v), x.want)
	}
}

// The keys that are indices are those that units.Index takes for such, also ones
// that are no strings of units: their last byte does not count.
func TestIndices(t *testing.T) {
	for _, x := range []struct {
		key   string
		index int64
	}{
		{wide("0"), 0}, {wide("7"), 7}, {wide("10"), 10}, {wide("999"), 999}, {wide("1000"), 1000}, {wide("999999999"), 999999999},
		{wide("7") + "\x00", 7}, {wide("7") + "7", 7}, {wide("999") + "a", 999}, {wide("1000") + "a", 1000},
		{"", -1}, {"\x00", -1}, {"7", -1}, {wide("07"), -1}, {wide("00"), -1}, {wide("-1"), -1}, {wide("+1"), -1}, {wide("1.0"), -1}, {wide(" 1"), -1}, {wide("1 "), -1},
		{wide("1e1"), -1}, {wide("0x1"), -1}, {wide("1000000000"), -1}, {wide("4294967296"), -1}, {"\x01\x30", -1}, {"\x30\x00", -1}, {wide("/"), -1}, {wide(":"), -1},
	} {
		for _, class := range []string{"Array", "Object"} {
			h := heap.New(100)
			v, _ := h.Make(class, null)
			want, wantLength := api.OK, 0
			if class == "Array" {
				if x.index >= 1000 {
					want = api.ErrRange
				} else {
					wantLength = int(x.index) + 1
				}
			}
			e := h.Put(v, x.key, num(1))
			if n, _ := h.Len(v); e != want || n != wantLength {
				t.Errorf("%s, %q: got %d, length %d", class, x.key, e, n)
			}
			if class == "Array" && e == api.OK {
				h.Put(v, wide("length"), num(0))
				if _, ok := h.Own(v, x.key); ok != (x.index < 0) {
					t.Errorf("%q is there behind the length: %v", x.key, ok)
				}
			}
		}
	}
}

// Several keys can be the same index: all of them are removed, or none of those
// from one that is not configurable on.
func TestKeysOfOneIndex(t *testing.T) {
	seven := []string{wide("7"), wide("7") + "a", wide("7") + "b"}
	for hard := range 4 {
		h := heap.New(100)
		v, _ := h.Array(null, nil)
		for i, key := range seven {
			if e := h.Define(v, api.Prop{Key: key, V: num(int64(i)), Write: true, Enum: true, Free: i != hard}); e != api.OK {
				t.Fatalf("%q: got %d", key, e)
			}
		}
		if e := h.Put(v, wide("8"), null); e != api.OK {
			t.Fatalf("got %d", e)
		}
		e := h.Put(v, wide("length"), num(3))
		n, _ := h.Len(v)
		if hard == 3 && (e != api.OK || n != 3 || len(h.Keys(v)) != 0) {
			t.Errorf("got %d, length %d, %q", e, n, h.Keys(v))
		}
		if hard < 3 && (e != api.ErrType || n != 8 || !slices.Equal(h.Keys(v), seven[hard:])) {
			t.Errorf("%d is hard: got %d, length %d, %q", hard, e, n, h.Keys(v))
		}
	}
	h := heap.New(100)
	v, _ := h.Array(null, nil)
	for _, key := range seven {
		h.Put(v, key, null)
	}
	h.Delete(v, seven[1])
	h.Put(v, wide("length"), num(8))
	if got := h.Keys(v); !slices.Equal(got, []string{seven[0], seven[2]}) {
		t.Errorf("got %q", got)
	}
	h.Put(v, wide("length"), num(7))
	if got := h.Keys(v); len(got) != 0 {
		t.Errorf("got %q", got)
	}
}

// P11.7

func TestExamples(t *testing.T) {
	story{"array null 1 2; put 5 7", "0", "Array length=6w : 0=1wec 1=2wec 5=7wec"}.check(t)
	story{"array null 1 2; put 5 7; put length 1", "0 0", "Array length=1w : 0=1wec"}.check(t)
	story{"make A null; def a 1 -; put a 2; del a", "0 110 110", "A : a=1"}.check(t)
}

// A value is kept as it is, also one that no program has.
func TestPutIsGot(t *testing.T) {
	h := three()
	for _, x := range append(none(), ref(1), text(strings.Repeat("a", 5000)), api.Val{Kind: api.Text, S: "a"}, api.Val{Kind: api.Num, N: 1, S: "a"}) {
		for _, key := range []string{"", "a", wide("a"), wide("0"), wide("17"), wide("é")} {
			for n := range int64(3) {
				if e := h.Put(ref(n+1), key, x); e != api.OK {
					t.Errorf("Put of %q: got %d", key, e)
				}
				if got, ok := h.Get(ref(n+1), key); got != x || !ok {
					t.Errorf("%q of %d: put %v, got %v, %v", key, n+1, x, got, ok)
				}
			}
		}
	}
}

// R2

func TestMemory(t *testing.T) {
	h := heap.New(100)
	class, key, s := strings.Clone("Class"), wide("key"), wide("text")
	x := api.Val{Kind: api.Text, S: s}
	put, _ := h.Make(class, null)
	h.Put(put, key, api.Val{})
	h.Put(put, key, x)
	added, _ := h.Make(class, null)
	h.Put(added, key, x)
	defined, _ := h.Make(class, null)
	h.Define(defined, api.Prop{Key: key, V: x, Enum: true, Free: true})
	again, _ := h.Make(class, null)
	h.Define(again, api.Prop{Key: key, Free: true})
	h.Define(again, api.Prop{Key: key, Write: true, Enum: true})
	h.Define(again, api.Prop{Key: key, V: x, Enum: true})
	list := []api.Val{x, x}
	array, _ := h.Array(null, list)
	used := map[*byte]string{unsafe.StringData(class): "the class", unsafe.StringData(key): "the key", unsafe.StringData(s): "the text"}
	fresh := func(what, got string) {
		t.Helper()
		if got == "" {
			t.Errorf("%s: there is no text", what)
		} else if other, ok := used[unsafe.StringData(got)]; ok {
			t.Errorf("%s shares memory with %s", what, other)
		}
		used[unsafe.StringData(got)] = what
	}
	for _, v := range []api.Val{put, added, defined, again, array} {
		k := key
		if v == array {
			k = wide("1")
			used[unsafe.StringData(k)] = "the index"
		}
		for range 2 {
			fresh("Class", h.Class(v))
			p, _ := h.Own(v, k)
			fresh("Own's key", p.Key)
			fresh("Own's value", p.V.S)
			got, _ := h.Get(v, k)
			fresh("Get", got.S)
			for _, l := range [][]string{h.Keys(v), h.Enum(v)} {
				for _, got := range l {
					fresh("a key", got)
				}
			}
		}
	}
	length := wide("length")
	used[unsafe.StringData(length)] = "the key length"
	p, _ := h.Own(array, length)
	fresh("the length's key", p.Key)
	q, _ := h.Own(array, length)
	fresh("the length's key again", q.Key)
}

// What was handed in is not kept: it may be overwritten after the call.
func TestArgumentsAreNotKept(t *testing.T) {
	var lent [][]byte
	lend := func(s string) string {
		b := []byte(s)
		lent = append(lent, b)
		return unsafe.String(&b[0], len(b))
	}
	lendText := func(s string) api.Val { return api.Val{Kind: api.Text, S: lend(wide(s))} }
	h := heap.New(100)
	v, _ := h.Make(lend("Class"), null)
	h.Put(v, lend(wide("a")), lendText("new"))
	h.Put(v, lend(wide("b")), null)
	h.Put(v, lend(wide("b")), lendText("put"))
	h.Define(v, api.Prop{Key: lend(wide("c")), V: lendText("added"), Free: true})
	h.Define(v, api.Prop{Key: lend(wide("d")), Free: true})
	h.Define(v, api.Prop{Key: lend(wide("d")), V: lendText("free"), Free: true})
	h.Define(v, api.Prop{Key: lend(wide("e")), Write: true})
	h.Define(v, api.Prop{Key: lend(wide("e")), V: lendText("hard")})
	h.Put(v, lend(wide("f")), null)
	h.Delete(v, lend(wide("f")))
	array, _ := h.Array(null, []api.Val{lendText("x")})
	h.Put(array, lend(wide("1")), lendText("y"))
	for _, b := range lent {
		clear(b)
	}
	if got := tell(h, v); got != "Class : a=newwec b=putwec c=addedc d=freec e=hard" {
		t.Errorf("got %s", got)
	}
	if got := tell(h, array); got != "Array length=2w : 0=xwec 1=ywec" {
		t.Errorf("got %s", got)
	}
	h.Put(array, wide("length"), num(0))
	if got := tell(h, array); got != "Array length=0w :" {
		t.Errorf("got %s", got)
	}
}

func TestSlicesAreNotShared(t *testing.T) {
	h := heap.New(100)
	l := []api.Val{num(1), num(2), num(3)}
	v, _ := h.Array(null, l[:2])
	if !slices.Equal(l, []api.Val{num(1), num(2), num(3)}) {
		t.Errorf("the argument became %v", l)
	}
	l[0] = num(9)
	for _, ask := range []func(api.Val) []string{h.Keys, h.Enum} {
		keys := ask(v)
		keys[0] = "x"
		_ = append(keys[:1], "y")
		if again := ask(v); !slices.Equal(again, []string{wide("0"), wide("1")}) {
			t.Errorf("got %q", again)
		}
	}
	if x, _ := h.Get(v, wide("0")); x != num(1) {
		t.Errorf("got %v", x)
	}
}

// R5

func TestHeapsAreIndependent(t *testing.T) {
	a, b := heap.New(3), heap.New(3)
	run(a, "make A null; put a 1; close")
	if b.Used() != 0 || b.Class(ref(1)) != "" {
		t.Errorf("b has what a has")
	}
	run(b, "make B null; put b 2")
	if got := tell(a, ref(1)); got != "A closed : a=1wec" {
		t.Errorf("a: got %s", got)
	}
	if got := tell(b, ref(1)); got != "B : b=2wec" {
		t.Errorf("b: got %s", got)
	}
}

// Many objects, properties and prototypes.
func TestMany(t *testing.T) {
	h := heap.New(100000)
	v, _ := h.Make("A", null)
	h.Put(v, wide("a"), num(7))
	for range 40000 {
		v, _ = h.Make("B", v)
	}
	if x, ok := h.Get(v, wide("a")); x != num(7) || !ok {
		t.Errorf("got %v, %v", x, ok)
	}
	if l := h.Enum(v); len(l) != 1 {
		t.Errorf("got %q", l)
	}
	// A chain of prototypes would be searched through for each of these.
	v, _ = h.Make("A", null)
	var want []string
	for i := range 50000 {
		key := wide(strconv.Itoa(i))
		if e := h.Put(v, key, num(int64(i))); e != api.OK {
			t.Fatalf("%d: got %d", i, e)
		}
		if i%2 == 1 {
			want = append(want, key)
		}
	}
	for i := 0; i < 50000; i += 2 {
		if e := h.Delete(v, wide(strconv.Itoa(i))); e != api.OK {
			t.Fatalf("%d: got %d", i, e)
		}
	}
	if got := h.Keys(v); !slices.Equal(got, want) {
		t.Errorf("got %d keys", len(got))
	}
}
