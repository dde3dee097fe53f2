package scope_test

import (
	"math/rand/v2"
	"slices"
	"testing"

	"credenza/api"
	"credenza/scope"
	"credenza/tree"
)

// P9.1 and P9.2

func TestRandom(t *testing.T) {
	r := rand.New(rand.NewPCG(9, 2))
	count := map[api.Errno]int{}
	declaring := 0
	for range 20000 {
		n := random(r)
		want := wantedCheck(n)
		count[want]++
		wantCheck(t, n, want)
		if want == api.ErrTree {
			t.Fatalf("not valid: %v", n)
		}
		wantDeclared(t, n.L)
		text, e := tree.Text(n)
		if e != api.OK {
			continue
		}
		names := scope.Vars(n.L)
		if want := writtenVars(t, text); !slices.Equal(names, want) {
			t.Fatalf("Vars of %q: got %q, want %q", text, names, want)
		}
		if len(names) > 2 {
			declaring++
		}
	}
	if count[api.OK] < 5000 || count[api.ErrEarly] < 5000 || declaring < 2000 {
		t.Errorf("the programs are too much alike: %v, %d", count, declaring)
	}
}

// changed calls f for n with a change of each of the nodes within it.
func changed(r *rand.Rand, n api.Node, f func(api.Node)) {
	other := n
	switch r.IntN(6) {
	case 0:
		other.Kind = r.IntN(43)
	case 1:
		other.Name = pick(r, "", "a", "b", "eval", "arguments", "delete", "=", "++")
	case 2:
		other.Names = pick(r, nil, []string{"a"}, []string{"a", "a"}, []string{"b", "eval"})
	case 3:
		other.Text = "\x00a"
	case 4:
		other.L = append(slices.Clone(n.L), pick(r, node(api.SBreak), named(api.SContinue, "a"), node(api.SReturn), named(api.EName, "eval"), named(api.SDecl, "z"), node(api.Empty)))
	case 5:
		other.L = n.L[:len(n.L)/2]
	}
	f(other)
	for i, x := range n.L {
		changed(r, x, func(y api.Node) {
			m := n
			m.L = slices.Clone(n.L)
			m.L[i] = y
			f(m)
		})
	}
}

// TestChanged: random programs with one change, most of which are not valid any more.
func TestChanged(t *testing.T) {
	r := rand.New(rand.NewPCG(9, 3))
	count := map[api.Errno]int{}
	for range 1500 {
		n := random(r)
		if tree.Size(n) > 150 {
			continue
		}
		changed(r, n, func(m api.Node) {
			want := wantedCheck(m)
			count[want]++
			wantCheck(t, m, want)
			wantDeclared(t, m.L)
			wantDeclared(t, []api.Node{m, m})
		})
	}
	if count[api.OK] < 1000 || count[api.ErrEarly] < 1000 || count[api.ErrTree] < 5000 {
		t.Errorf("the programs are too much alike: %v", count)
	}
}

// P9.3

// TestEnclosed: a block around the statements changes nothing.
func TestEnclosed(t *testing.T) {
	r := rand.New(rand.NewPCG(9, 4))
	count := map[api.Errno]int{}
	for range 10000 {
		n := random(r)
		n.L = slices.DeleteFunc(n.L, func(x api.Node) bool { return x.Kind == api.SFunc })
		if tree.Deep(n) == 64 {
			continue // the block makes it too deep
		}
		m := program(node(api.SBlock, n.L...))
		e := scope.Check(n)
		wantCheck(t, m, e)
		count[e]++
		if a, b := scope.Vars(n.L), scope.Vars(m.L); !slices.Equal(a, b) {
			t.Fatalf("%s: %q and %q", told(n), a, b)
		}
		if len(scope.Funcs(n.L)) > 0 || len(scope.Funcs(m.L)) > 0 {
			t.Fatalf("%s: there are functions", told(n))
		}
	}
	if count[api.OK] < 3000 || count[api.ErrEarly] < 2000 {
		t.Errorf("the programs are too much alike: %v", count)
	}
}

// TestConcatenated: two programs, one behind the other.
func TestConcatenated(t *testing.T) {
	r := rand.New(rand.NewPCG(9, 5))
	count := map[api.Errno]int{}
	for range 10000 {
		a, b := random(r), random(r)
		both := program(slices.Concat(a.L, b.L)...)
		e := max(scope.Check(a), scope.Check(b))
		if a, b := scope.Check(a), scope.Check(b); a == api.ErrDeep || b == api.ErrDeep {
			e = api.ErrDeep
		}
		count[e]++
		wantCheck(t, both, e)
		if got, want := scope.Vars(both.L), firsts(slices.Concat(scope.Vars(a.L), scope.Vars(b.L))); !slices.Equal(got, want) {
			t.Fatalf("%s: got %q, want %q", told(both), got, want)
		}
		if got, want := scope.Funcs(both.L), slices.Concat(scope.Funcs(a.L), scope.Funcs(b.L)); !sameNodes(got, want) {
			t.Fatalf("%s: got %v, want %v", told(both), got, want)
		}
	}
	if count[api.OK] < 2000 || count[api.ErrEarly] < 2000 {
		t.Errorf("the programs are too much alike: %v", count)
	}
}
