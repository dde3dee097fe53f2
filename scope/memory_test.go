package scope_test

import (
	"cmp"
	"math/rand/v2"
	"slices"
	"testing"
	"unsafe"

	"credenza/api"
	"credenza/scope"
	"credenza/tree"
)

// R2 and R3

// spans are where what a list of nodes consists of begins and ends, up to its capacity.
func spans(l []api.Node) [][2]uintptr {
	all := [][2]uintptr{span(unsafe.Pointer(unsafe.SliceData(l)), cap(l), unsafe.Sizeof(api.Node{}))}
	for _, n := range l {
		all = append(all, texts(n.Name, n.Text)...)
		all = append(all, names(n.Names)...)
		all = append(all, spans(n.L)...)
	}
	return all
}

func names(l []string) [][2]uintptr {
	return append(texts(l...), span(unsafe.Pointer(unsafe.SliceData(l)), cap(l), unsafe.Sizeof("")))
}

func texts(l ...string) [][2]uintptr {
	var all [][2]uintptr
	for _, s := range l {
		all = append(all, span(unsafe.Pointer(unsafe.StringData(s)), len(s), 1))
	}
	return all
}

func span(start unsafe.Pointer, count int, size uintptr) [2]uintptr {
	return [2]uintptr{uintptr(start), uintptr(start) + uintptr(count)*size}
}

// meet reports whether any two of the spans do.
func meet(all [][2]uintptr) bool {
	all = slices.DeleteFunc(all, func(s [2]uintptr) bool { return s[0] == s[1] })
	return len(joined(all)) < len(all)
}

// joined makes one span of those that meet.
func joined(all [][2]uintptr) [][2]uintptr {
	all = slices.SortedFunc(slices.Values(all), func(a, b [2]uintptr) int { return cmp.Compare(a[0], b[0]) })
	var few [][2]uintptr
	for _, s := range all {
		if last := len(few) - 1; last >= 0 && few[last][1] > s[0] {
			few[last][1] = max(few[last][1], s[1])
		} else if s[0] < s[1] {
			few = append(few, s)
		}
	}
	return few
}

// TestApart: what is answered shares no memory with anything else, nor its parts among
// themselves.
func TestApart(t *testing.T) {
	r := rand.New(rand.NewPCG(9, 6))
	some := []api.Node{parsed(t, "function f(a, b) { x = {p: 'q', r: function (c) { var a, b; }}; }").L[0]}
	f := some[0]
	some = append(some, f, named(api.SFunc, f.Name, f.L[0], f), api.Node{Kind: api.SFunc, Name: f.Name, Text: f.Name, Names: []string{f.Name, f.Name}, L: f.L})
	some = append(some, named(api.SDecl, f.Name), named(api.SDecl, f.Names[0]), named(api.SVar, "", named(api.SDecl, f.Names[1])))
	for range 500 {
		l := append(random(r).L, some...)
		was := fresh(program(l...)).L
		first, second := scope.Funcs(l), scope.Funcs(l)
		if len(first) < 4 || meet(slices.Concat(spans(first), spans(second))) {
			t.Fatalf("functions of %s share memory", told(program(l...)))
		}
		a, b := scope.Vars(l), scope.Vars(l)
		if len(a) < 3 || meet(slices.Concat(names(a), names(b))) {
			t.Fatalf("names of %s share memory", told(program(l...)))
		}
		if meet(slices.Concat(joined(spans(l)), spans(first), names(a))) {
			t.Fatalf("what is answered for %s shares memory with it", told(program(l...)))
		}
		if !sameNodes(l, was) || !sameNodes(first, wantedFuncs(was)) {
			t.Fatalf("%s was changed", told(program(was...)))
		}
	}
}

// spoil changes each of the nodes and all that they consist of.
func spoil(l []api.Node) {
	for i := range l {
		for j := range l[i].Names {
			l[i].Names[j] = "spoilt"
		}
		spoil(l[i].L)
		l[i] = api.Node{Kind: api.SDecl, Name: "spoilt"}
	}
}

// TestSpoilt: what is done to an answer, or to what was passed, changes nothing else.
func TestSpoilt(t *testing.T) {
	l := parsed(t, "var a, b; function f(c, d) { var e = [1, {p: function g(h) { return h; }}]; } function f(c, d) { return c; } { var x; }").L
	l = append(l, l[1], named(api.SFunc, "k", l[2], l[2]))
	was := fresh(program(l...)).L
	for i := range scope.Funcs(l) {
		got := scope.Funcs(l)
		spoil(got[i : i+1])
		want := wantedFuncs(was)
		want[i] = got[i]
		if !sameNodes(got, want) || !sameNodes(l, was) {
			t.Fatalf("the function %d shares memory", i)
		}
	}
	last := scope.Funcs(l)[3].L
	spoil(last[:1])
	if !tree.Same(last[1], was[2]) {
		t.Error("what stands in a function shares memory")
	}
	scope.Vars(l)[0] = "spoilt"
	before, after := scope.Vars(l), scope.Funcs(l)
	spoil(l)
	if !slices.Equal(before, []string{"a", "b", "x"}) || !sameNodes(after, wantedFuncs(was)) {
		t.Error("what was answered was changed")
	}
}

// TestArgumentsStay: neither what is passed nor what stands behind it is changed.
func TestArgumentsStay(t *testing.T) {
	r := rand.New(rand.NewPCG(9, 1))
	for range 500 {
		n := program(append(random(r).L, random(r).L...)...)
		n.L = slices.Clip(n.L)
		was := fresh(n)
		for i := range len(n.L) + 1 {
			scope.Check(program(n.L[:i]...))
			scope.Vars(n.L[:i])
			_ = append(scope.Funcs(n.L[:i]), node(api.SEmpty))
		}
		if !tree.Same(n, was) {
			t.Fatalf("%s was changed", told(was))
		}
	}
}

func TestEmptyIsNil(t *testing.T) {
	for kind := range 43 {
		a := api.Node{Kind: kind, Name: "f", Names: []string{}, L: []api.Node{}}
		b := api.Node{Kind: kind, Name: "f"}
		if scope.Check(program(a)) != scope.Check(program(b)) || !sameNodes(scope.Funcs([]api.Node{a}), scope.Funcs([]api.Node{b})) || len(scope.Vars([]api.Node{a})) != len(scope.Vars([]api.Node{b})) {
			t.Errorf("an empty slice and none differ for the Kind %d", kind)
		}
	}
}
