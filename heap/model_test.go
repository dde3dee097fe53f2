package heap_test

import (
	"math/rand/v2"
	"regexp"
	"slices"
	"sort"
	"strconv"
	"testing"

	"credenza/api"
	"credenza/heap"
)

// model is a heap by other means: what a heap is to do, as the chapter tells it,
// with lists that are searched through.
type model struct {
	left, used int
	objects    []*modelObject
}

// modelObject is an object of a model. Its properties include the length of an
// Array, which is the first one.
type modelObject struct {
	class  string
	proto  api.Val
	closed bool
	props  []api.Prop
}

var digits = regexp.MustCompile(`^(0|[1-9][0-9]{0,8})$`)

// indexOf returns the index that a key is in o, or -1 if it is none.
func (o *modelObject) indexOf(key string) int {
	s := narrow(key)
	if o.class != "Array" || !digits.MatchString(s) || wide(s) != key[:len(key)/2*2] {
		return -1
	}
	n, _ := strconv.Atoi(s)
	return n
}

func (o *modelObject) place(key string) int {
	return slices.IndexFunc(o.props, func(p api.Prop) bool { return p.Key == key })
}

func (o *modelObject) isLength(key string) bool {
	return o.class == "Array" && key == wide("length")
}

func (m *model) object(v api.Val) *modelObject {
	for i, o := range m.objects {
		if v == ref(int64(i)+1) {
			return o
		}
	}
	return nil
}

func (m *model) take(n int) bool {
	if n > m.left {
		return false
	}
	m.left, m.used = m.left-n, m.used+n
	return true
}

func (m *model) make(class string, proto api.Val, elements []api.Val) (api.Val, bool) {
	if len(elements) > 1000 || !m.take(1+len(elements)) {
		return api.Val{}, false
	}
	o := &modelObject{class: class, proto: null}
	if m.object(proto) != nil {
		o.proto = proto
	}
	if class == "Array" {
		o.props = append(o.props, api.Prop{Key: wide("length"), V: num(int64(len(elements))), Write: true})
	}
	for i, x := range elements {
		o.props = append(o.props, api.Prop{Key: wide(strconv.Itoa(i)), V: x, Write: true, Enum: true, Free: true})
	}
	m.objects = append(m.objects, o)
	return ref(int64(len(m.objects))), true
}

// line returns v and its prototypes.
func (m *model) line(v api.Val) []*modelObject {
	var l []*modelObject
	for o := m.object(v); o != nil; o = m.object(o.proto) {
		l = append(l, o)
	}
	return l
}

func (m *model) first(v api.Val, key string) (api.Prop, bool) {
	for _, o := range m.line(v) {
		if i := o.place(key); i >= 0 {
			return o.props[i], true
		}
	}
	return api.Prop{}, false
}

func (m *model) add(o *modelObject, p api.Prop) api.Errno {
	i := o.indexOf(p.Key)
	if o.closed {
		return api.ErrType
	}
	if i >= 1000 {
		return api.ErrRange
	}
	if i >= 0 && int64(i) >= o.props[0].V.N && !o.props[0].Write {
		return api.ErrType
	}
	if !m.take(1) {
		return api.ErrHeap
	}
	o.props = append(o.props, p)
	if i >= 0 && o.props[0].V.N <= int64(i) {
		o.props[0].V.N = int64(i) + 1
	}
	return api.OK
}

// truncate makes n the length of an Array.
func (o *modelObject) truncate(n int64) api.Errno {
	var gone []api.Prop
	for _, p := range o.props {
		if int64(o.indexOf(p.Key)) >= n {
			gone = append(gone, p)
		}
	}
	sort.SliceStable(gone, func(i, j int) bool { return o.indexOf(gone[i].Key) > o.indexOf(gone[j].Key) })
	for _, p := range gone {
		if !p.Free {
			o.props[0].V = num(int64(o.indexOf(p.Key)) + 1)
			return api.ErrType
		}
		o.drop(p.Key)
	}
	o.props[0].V = num(n)
	return api.OK
}

func (o *modelObject) drop(key string) {
	i := o.place(key)
	o.props = slices.Concat(o.props[:i], o.props[i+1:])
}

func (o *modelObject) putLength(x api.Val) api.Errno {
	if x.Kind != api.Num || x.N < 0 || x.N > 1000 {
		return api.ErrRange
	}
	return o.truncate(x.N)
}

func (m *model) put(v api.Val, key string, x api.Val) api.Errno {
	o := m.object(v)
	if o == nil {
		return api.ErrType
	}
	if p, ok := m.first(v, key); ok && !p.Write {
		return api.ErrType
	}
	if o.isLength(key) {
		return o.putLength(x)
	}
	if i := o.place(key); i >= 0 {
		o.props[i].V = x
		return api.OK
	}
	return m.add(o, api.Prop{Key: key, V: x, Write: true, Enum: true, Free: true})
}

func (m *model) define(v api.Val, p api.Prop) api.Errno {
	o := m.object(v)
	if o == nil {
		return api.ErrType
	}
	i := o.place(p.Key)
	if i < 0 {
		return m.add(o, p)
	}
	was := o.props[i]
	if !was.Free && (p.Free || p.Enum != was.Enum) {
		return api.ErrType
	}
	if !was.Free && !was.Write && (p.Write || p.V != was.V) {
		return api.ErrType
	}
	if !o.isLength(p.Key) {
		o.props[i] = p
		return api.OK
	}
	e := o.putLength(p.V)
	if e == api.OK {
		o.props[0].Write = p.Write
	}
	return e
}

func (m *model) remove(v api.Val, key string) api.Errno {
	o := m.object(v)
	if o == nil || o.isLength(key) {
		return api.ErrType
	}
	i := o.place(key)
	if i < 0 {
		return api.OK
	}
	if !o.props[i].Free {
		return api.ErrType
	}
	o.drop(key)
	return api.OK
}

func (m *model) keys(v api.Val) []string {
	var l []string
	if o := m.object(v); o != nil {
		for _, p := range o.props {
			if !o.isLength(p.Key) {
				l = append(l, p.Key)
			}
		}
	}
	return l
}

func (m *model) enum(v api.Val) []string {
	var l []string
	line := m.line(v)
	for i, o := range line {
		for _, p := range o.props {
			hidden := slices.ContainsFunc(line[:i], func(o *modelObject) bool { return o.place(p.Key) >= 0 })
			if p.Enum && !hidden {
				l = append(l, p.Key)
			}
		}
	}
	return l
}

// both is a heap and its model, and what the calls on them were so far.
type both struct {
	t     *testing.T
	h     *heap.Heap
	m     *model
	calls []string
}

func newBoth(t *testing.T, most int) *both {
	return &both{t: t, h: heap.New(most), m: &model{left: most}}
}

func (b *both) fail(what string) {
	b.t.Helper()
	for _, call := range b.calls {
		b.t.Log(call)
	}
	b.t.Fatal(what)
}

// keysOfAll are the keys for which a heap and its model are asked.
func keysOfAll() []string {
	return []string{
		wide("a"), wide("b"), wide("length"), wide("0"), wide("1"), wide("2"), wide("3"), wide("998"), wide("999"), wide("1000"), wide("01"), "", "length", wide("2") + "x", wide("999") + "x",
	}
}

// check holds all that can be asked of the heap against the model.
func (b *both) check() {
	b.t.Helper()
	if b.h.Used() != b.m.used {
		b.fail("Used: got " + strconv.Itoa(b.h.Used()))
	}
	for n := range int64(len(b.m.objects)) + 2 {
		v := ref(n)
		o := b.m.object(v)
		if o == nil {
			checkNoObject(b.t, b.h, v)
			continue
		}
		length, isArray := b.h.Len(v)
		if b.h.Class(v) != o.class || b.h.Proto(v) != o.proto || b.h.IsOpen(v) == o.closed || isArray != (o.class == "Array") || isArray && num(int64(length)) != o.props[0].V || !isArray && length != 0 {
			b.fail("object " + strconv.FormatInt(n, 10) + " is " + tell(b.h, v))
		}
		if got := b.h.Keys(v); !slices.Equal(got, b.m.keys(v)) {
			b.fail("Keys: object " + strconv.FormatInt(n, 10) + " is " + tell(b.h, v))
		}
		if got := b.h.Enum(v); !slices.Equal(got, b.m.enum(v)) {
			b.fail("Enum: object " + strconv.FormatInt(n, 10) + " is " + tell(b.h, v))
		}
		for _, key := range keysOfAll() {
			b.checkKey(v, o, key)
		}
	}
}

func (b *both) checkKey(v api.Val, o *modelObject, key string) {
	b.t.Helper()
	var own api.Prop
	i := o.place(key)
	if i >= 0 {
		own = o.props[i]
	}
	if p, ok := b.h.Own(v, key); p != own || ok != (i >= 0) {
		b.fail("Own of " + strconv.Quote(key) + ": got " + show(p))
	}
	p, there := b.m.first(v, key)
	if x, ok := b.h.Get(v, key); x != p.V || ok != there {
		b.fail("Get of " + strconv.Quote(key) + ": got " + said(x))
	}
}

// answered holds what a call answered against what the model did.
func (b *both) answered(call string, got, want api.Errno) {
	b.t.Helper()
	b.calls = append(b.calls, call+": "+strconv.Itoa(int(want)))
	if got != want {
		b.fail("got " + strconv.Itoa(int(got)))
	}
}

func (b *both) put(v api.Val, key string, x api.Val) {
	b.t.Helper()
	b.answered("put "+said(v)+" "+strconv.Quote(key)+" "+said(x), b.h.Put(v, key, x), b.m.put(v, key, x))
}

func (b *both) define(v api.Val, p api.Prop) {
	b.t.Helper()
	b.answered("define "+said(v)+" "+strconv.Quote(p.Key)+" "+show(p), b.h.Define(v, p), b.m.define(v, p))
}

func (b *both) remove(v api.Val, key string) {
	b.t.Helper()
	b.answered("delete "+said(v)+" "+strconv.Quote(key), b.h.Delete(v, key), b.m.remove(v, key))
}

func (b *both) create(class string, proto api.Val, elements []api.Val) {
	b.t.Helper()
	b.calls = append(b.calls, "make "+class+" "+said(proto)+" of "+strconv.Itoa(len(elements)))
	want, wantOK := b.m.make(class, proto, elements)
	got, ok := api.Val{}, false
	if elements == nil {
		got, ok = b.h.Make(class, proto)
	} else {
		got, ok = b.h.Array(proto, elements)
	}
	if got != want || ok != wantOK {
		b.fail("got " + said(got))
	}
}

func (b *both) close(v api.Val) {
	b.t.Helper()
	b.calls = append(b.calls, "close "+said(v))
	o := b.m.object(v)
	if o != nil {
		o.closed = true
	}
	if b.h.Close(v) != (o != nil) {
		b.fail("got the other one")
	}
}

func (b *both) takeCell() {
	b.t.Helper()
	b.calls = append(b.calls, "take")
	if b.h.Take() != b.m.take(1) {
		b.fail("got the other one")
	}
}

func pick[T any](r *rand.Rand, l ...T) T {
	return l[r.IntN(len(l))]
}

// step makes a random call.
func (b *both) step(r *rand.Rand) {
	b.t.Helper()
	v := ref(r.Int64N(int64(len(b.m.objects)) + 2))
	key := pick(r, keysOfAll()...)
	x := pick(r, num(0), num(1), num(2), num(3), num(999), num(1000), num(1001), num(-1), text("x"), null, api.Val{}, ref(1))
	switch r.IntN(20) {
	case 0:
		b.create(pick(r, "Array", "Object", ""), v, nil)
	case 1:
		b.create("Array", v, []api.Val{x, num(7), x, null}[:r.IntN(5)])
	case 2, 3, 4, 5, 6, 7, 8:
		b.put(v, key, x)
	case 9:
		b.put(v, wide("length"), num(r.Int64N(5)))
	case 10, 11, 12, 13, 14:
		b.define(v, api.Prop{Key: key, V: x, Write: r.IntN(2) == 0, Enum: r.IntN(2) == 0, Free: r.IntN(2) == 0})
	case 15:
		b.define(v, api.Prop{Key: wide("length"), V: pick(r, x, num(1), num(2), num(3)), Write: r.IntN(4) > 0})
	case 16, 17:
		b.remove(v, key)
	case 18:
		if r.IntN(4) == 0 {
			b.close(v)
		}
	case 19:
		b.takeCell()
	}
}

func TestRandomCalls(t *testing.T) {
	r := rand.New(rand.NewPCG(11, 1))
	for range 1000 {
		b := newBoth(t, pick(r, 0, 3, 10, 20, 100, 1000))
		b.create(pick(r, "Array", "Object"), null, nil)
		for range 60 {
			b.step(r)
			b.check()
		}
	}
}

// Each two calls on an Array and what has it as its prototype, with what each
// property may be.
func TestPairsOfCalls(t *testing.T) {
	calls := callsOfPairs()
	for _, one := range calls {
		for _, two := range calls {
			b := newBoth(t, 20)
			b.create("Array", null, []api.Val{num(1), num(2), num(3)})
			b.create("Object", ref(1), nil)
			one(b)
			two(b)
			b.check()
		}
	}
}

func callsOfPairs() []func(*both) {
	l := []func(*both){func(b *both) { b.close(ref(1)) }, func(b *both) { b.close(ref(2)) }}
	for _, v := range []api.Val{ref(1), ref(2)} {
		for _, key := range []string{wide("1"), wide("3"), wide("1000"), wide("length"), wide("a")} {
			l = append(l, func(b *both) { b.remove(v, key) })
			for _, x := range []api.Val{num(1), num(3), num(4), text("x")} {
				l = append(l, func(b *both) { b.put(v, key, x) })
				if x == num(4) {
					continue
				}
				for f := range 8 {
					p := api.Prop{Key: key, V: x, Write: f&1 > 0, Enum: f&2 > 0, Free: f&4 > 0}
					l = append(l, func(b *both) { b.define(v, p) })
				}
			}
		}
	}
	return l
}

// What is closed gets no new properties, and what may neither be written nor
// defined anew keeps its value, whatever is called.
func TestConsequences(t *testing.T) {
	r := rand.New(rand.NewPCG(11, 7))
	for range 300 {
		b := newBoth(t, 100)
		b.create("Array", null, nil)
		for range 60 {
			before := b.properties()
			b.step(r)
			after := b.properties()
			b.hold(before, after)
		}
	}
}

// properties returns what each object of the heap has, with the length of an
// Array, and whether it is closed.
func (b *both) properties() []closable {
	var l []closable
	for n := range b.m.objects {
		v := ref(int64(n) + 1)
		c := closable{closed: !b.h.IsOpen(v), props: map[string]api.Prop{}}
		for _, key := range append(b.h.Keys(v), wide("length")) {
			if p, ok := b.h.Own(v, key); ok {
				c.props[key] = p
			}
		}
		l = append(l, c)
	}
	return l
}

// closable is whether an object is closed, and what it has.
type closable struct {
	closed bool
	props  map[string]api.Prop
}

func (b *both) hold(before, after []closable) {
	b.t.Helper()
	for i, was := range before {
		if was.closed && !after[i].closed {
			b.fail("a closed object is open")
		}
		for key := range after[i].props {
			if _, ok := was.props[key]; was.closed && !ok {
				b.fail("a closed object has a new property " + strconv.Quote(key))
			}
		}
		for key, p := range was.props {
			if now, ok := after[i].props[key]; !p.Free && !p.Write && (now != p || !ok) {
				b.fail("the property changed: " + show(p))
			}
		}
	}
}
