package scope_test

import (
	"fmt"
	"runtime/debug"
	"slices"
	"strconv"
	"strings"
	"testing"

	"credenza/api"
	"credenza/parse"
	"credenza/scope"
	"credenza/tree"
)

// parsed is the tree of a source.
func parsed(t *testing.T, src string) api.Node {
	t.Helper()
	n, at, e := parse.Program(src)
	if e != api.OK {
		t.Fatalf("%q: %d at %d", src, e, at)
	}
	return n
}

// told is the text of a program, or the beginning of what it consists of.
func told(n api.Node) string {
	s, e := tree.Text(n)
	if e != api.OK {
		s = fmt.Sprint(n)
	}
	return s[:min(len(s), 1000)]
}

func wantCheck(t *testing.T, n api.Node, want api.Errno) {
	t.Helper()
	if got := scope.Check(n); got != want {
		t.Fatalf("%s: got %d, want %d", told(n), got, want)
	}
}

// wantSources wants Check to return that for each source, and the oracle, too.
func wantSources(t *testing.T, want api.Errno, sources ...string) {
	t.Helper()
	for _, src := range sources {
		n := parsed(t, src)
		if got := wantedCheck(n); got != want {
			t.Errorf("%q: the oracle has %d", src, got)
		}
		if got := scope.Check(n); got != want {
			t.Errorf("%q: got %d, want %d", src, got, want)
		}
	}
}

func wantDeclared(t *testing.T, l []api.Node) {
	t.Helper()
	if got, want := scope.Vars(l), wantedVars(l); !slices.Equal(got, want) {
		t.Fatalf("Vars of %s: got %q, want %q", told(program(l...)), got, want)
	}
	if got, want := scope.Funcs(l), wantedFuncs(l); !sameNodes(got, want) {
		t.Fatalf("Funcs of %s: got %s, want %s", told(program(l...)), told(program(got...)), told(program(want...)))
	}
}

// P9.1

func TestExamples(t *testing.T) {
	wantSources(t, api.OK, "a: while (1) { break a; }")
	wantSources(t, api.ErrEarly, "break;", "delete x;", "return;", "eval = 1;", "function f(a, a) { }", "a: a: ;")
}

func TestNames(t *testing.T) {
	for _, s := range []string{"eval", "arguments"} {
		for _, src := range []string{
			"var @;", "var @ = 1;", "var a, @, b;", "for (var @ = 1; ; ) ;", "for (var @ in x) ;",
			"function @() { }", "function f(@) { }", "function f(a, b, @) { }", "function f(@, a) { }",
			"(function @() { });", "x = function @(a) { };", "(function (@) { });", "(function f(a, @, b) { });",
			"try { } catch (@) { }", "try { } catch (@) { } finally { }",
			"@ = 1;", "@ += 1;", "@ -= 1;", "@ *= 1;", "@ /= 1;", "@ %= 1;", "x = @ = 1;", "(@) = 1;", "@ = @;",
			"@++;", "@--;", "++@;", "--@;", "-(@++);", "for (@ in x) ;", "for (@ = 1; ; ) ;", "for (; ; @++) ;",
		} {
			wantSources(t, api.ErrEarly, strings.ReplaceAll(src, "@", s))
			for _, other := range []string{"a1", "Eval", "evals", "eva", "Arguments", "argument", "arguments2", "$"} {
				wantSources(t, api.OK, strings.ReplaceAll(src, "@", other))
			}
		}
		for _, src := range []string{
			"@;", "-@;", "typeof @;", "void @;", "@();", "new @;", "x = @;", "x += @;", "@ + @;", "@ ? @ : @;", "[@];", "@, @;",
			"@.a;", "@.a = 1;", "@[0] = 1;", "@[@] = 1;", "@.a++;", "--@[0];", "delete @.a;", "delete @[0];", "delete x.@;",
			"x.@ = 1;", "x.@++;", "++x.@;", "x[@] = 1;", "x[@]++;", "({@: 1});", "({@: 1}).@ = 2;", "x = '@';",
			"for (@.a in x) ;", "for (@[0] in x) ;", "for (x[@] in x) ;", "for (x in @) ;", "for (x.@ in x) ;", "for (var x in @) ;",
			"for (@; @; @) ;", "for (var x = @; ; ) ;", "var x = @;", "if (@) ;", "switch (@) { case @: }", "throw @;",
			"@: ;", "@: while (1) break @;", "@: while (1) continue @;", "@: { break @; }",
			"function f() { return @; }", "(function f() { return @; });", "try { @; } catch (e) { @; } finally { @; }",
		} {
			wantSources(t, api.OK, strings.ReplaceAll(src, "@", s))
		}
	}
}

func TestTwice(t *testing.T) {
	wantSources(t, api.ErrEarly,
		"function f(a, a) { }", "(function (a, a) { });", "x = function f(a, a) { };", "function f(a, b, a) { }", "function f(b, a, a) { }",
		"function f(a, b, c, d, b) { }", "(function (a, b, b, a) { });", "function f(a, a, a) { }",
		"({a: 1, a: 1});", "({a: 1, a: 2});", "({a: 1, b: 2, a: 3});", "({c: 1, a: 1, b: 2, b: 3});", "({a: 1, 'a': 2});", "({'': 1, \"\": 2});",
		"({1: 1, '1': 2});", "({0x10: 1, 16: 2});", "({if: 1, if: 2});", "({'\\u0061': 1, a: 2});", "({a: function () { }, a: 1});", "x = [{a: 1, a: 2}];")
	wantSources(t, api.OK,
		"function f(a, b) { }", "function f(f) { }", "(function f(f) { });", "function f(a) { var a; }", "function f(a, A, aa) { }", "function f() { }",
		"function f(a) { return function (a) { }; }", "function f(a) { } function g(a) { }", "function f() { } function f() { }", "var f; function f() { }",
		"function f(a) { function a() { } }", "function f(a, b, c, d, e) { }", "(function (a) { })(function (a) { });",
		"var a, a; var a;", "try { } catch (e) { var e; }", "try { } catch (e) { try { } catch (e) { } }",
		"({});", "({a: 1});", "({a: 1, b: 1});", "({a: 1, A: 2, aa: 3, '': 4});", "({a: {a: {a: 1}}});", "({a: {b: 1}, b: {a: 1}});", "[{a: 1}, {a: 1}];",
		"({1: 1, 2: 1});", "({a: b, b: a});", "({a: 'a', b: 'a'});", "x.a = x.a;", "({__proto__: 1, constructor: 2, toString: 3});")
}

func TestDelete(t *testing.T) {
	wantSources(t, api.ErrEarly, "delete x;", "delete (x);", "delete ((x));", "delete eval;", "x = -delete x;", "delete delete x;", "delete x + 1;", "delete x, 1;", "while (delete x) ;")
	wantSources(t, api.OK, "delete x.y;", "delete x[y];", "delete (x.y);", "delete x();", "delete 1;", "delete (x, y);", "delete -x;", "delete 'x';", "delete this;",
		"delete null;", "delete (x = y);", "delete [x];", "delete {x: x};", "delete x++;", "delete delete x.y;", "delete (x || y);", "delete x.y.z;", "delete function x() { };",
		"-x;", "+x;", "!x;", "typeof x;", "void x;", "x = {delete: x};", "x.delete;", "delete new x;", "delete (x ? x : x);")
}

func TestReturn(t *testing.T) {
	wantSources(t, api.ErrEarly, "return;", "return 1;", "{ return; }", "while (1) return;", "a: return;", "function f() { } return;", "return; function f() { }",
		"(function () { }); return;", "switch (1) { case 1: return; }", "try { } catch (e) { return; }", "try { } finally { return; }", "if (1) ; else return;", "a: { switch (1) { default: return; } }")
	wantSources(t, api.OK, "function f() { return; }", "function f() { return 1; }", "(function () { return; });", "x = {a: function () { { return; } }};",
		"function f() { while (1) { return; } }", "function f() { function g() { } return; }", "function f() { function g() { return; } }", "(function () { (function () { }); return; });",
		"while (function () { return; }) ;", "for (var a = function () { return; }; ; ) ;")
}

func TestBreakAndContinue(t *testing.T) {
	wantSources(t, api.ErrEarly,
		"break;", "continue;", "{ break; }", "a: break;", "a: { break; }", "a: continue;", "a: { continue; }", "a: continue a;", "a: { continue a; }",
		"switch (1) { case 1: continue; }", "a: switch (1) { case 1: continue a; }", "if (1) break;", "try { break; } finally { }",
		"while (1) ; break;", "break; while (1) ;", "do ; while (1); continue;", "switch (1) { } break;", "for (; ; ) ; break;", "for (x in y) ; continue;",
		"break a;", "while (1) break a;", "while (1) continue a;", "a: while (1) break b;", "a: while (1) continue b;", "a: ; break a;", "a: ; while (1) continue a;",
		"a: while (1) ; while (1) continue a;", "while (1) { a: ; break a; }", "while (1) a: continue a;", "while (1) { a: { continue a; } }",
		"a: { while (1) continue a; }", "a: { while (1) { continue a; } }", "a: if (1) while (1) continue a;", "a: b: { while (1) continue a; }", "a: b: { c: while (1) continue b; }",
		"a: b: { c: while (1) continue a; }", "a: try { while (1) continue a; } finally { }", "a: switch (1) { case 1: while (1) continue a; }",
		"while (1) { (function () { break; }); }", "while (1) { (function () { continue; }); }", "a: while (1) { (function () { break a; }); }", "a: while (1) { (function () { continue a; }); }",
		"while (function () { break; }) ;", "a: (function () { break a; });", "switch (function () { break; }) { }", "switch (1) { case 1: x = function () { break; }; }",
		"function a() { break a; }", "function f() { break; }", "function f() { continue; }", "function f() { a: while (1) ; continue a; }",
		"a: a: ;", "a: { a: ; }", "a: b: a: ;", "a: while (1) { b: { a: ; } }", "a: while (1) { while (1) { a: while (1) ; } }", "a: switch (1) { default: a: ; }", "a: if (1) ; else a: ;",
		"a: try { } catch (e) { a: ; }", "function f() { a: { a: ; } }", "x = function () { a: a: ; };", "a: do { a: ; } while (1);", "a: for (x in y) a: ;")
	wantSources(t, api.OK,
		"while (1) break;", "while (1) continue;", "do break; while (1);", "do continue; while (1);", "for (; ; ) break;", "for (; ; ) continue;", "for (x in y) break;", "for (x in y) continue;",
		"for (var x in y) break;", "for (var x; ; ) continue;", "switch (1) { case 1: break; }", "switch (1) { default: break; case 2: }", "while (1) switch (1) { case 1: continue; }",
		"switch (1) { case 1: while (1) continue; }", "while (1) { if (1) { try { break; } finally { continue; } } }", "while (1) { a: { break; } }", "while (1) a: continue;",
		"a: break a;", "a: { break a; }", "a: if (1) break a;", "a: { b: { break a; } }", "a: b: break a;", "a: b: break b;", "a: while (1) continue a;", "a: do continue a; while (1);",
		"a: for (; ; ) continue a;", "a: for (x in y) continue a;", "a: b: while (1) continue a;", "a: b: while (1) continue b;", "a: b: c: while (1) { continue a; continue b; continue c; }",
		"a: while (1) while (1) continue a;", "a: while (1) { b: { continue a; } }", "a: while (1) { switch (1) { case 1: continue a; } }", "a: while (1) b: while (1) { continue a; continue b; }",
		"a: { b: while (1) { break a; continue b; } }", "a: switch (1) { case 1: break a; }", "a: try { break a; } catch (e) { break a; } finally { break a; }",
		"a: ; a: ;", "{ a: ; } a: ;", "a: { b: ; } b: { a: ; }", "a: { b: ; b: ; }", "a: (function () { a: ; });", "a: while (function () { a: ; }) ;", "function f() { a: ; } a: ;", "a: b: c: ;",
		"function f() { while (1) { break; continue; } }", "a: while (1) { (function () { a: while (1) { break a; continue a; } }); continue a; }", "var a; a: ;", "function a() { a: ; }")
}

// deep has so many blocks one in the other, the innermost of which has n in it.
func deep(n api.Node, times int) api.Node {
	for range times {
		n = node(api.SBlock, n)
	}
	return n
}

// wantUnlessDeep wants Check to return e, but ErrDeep for a program that is too deep.
func wantUnlessDeep(t *testing.T, e api.Errno, l ...api.Node) {
	t.Helper()
	n := program(l...)
	if tree.Deep(n) > 64 {
		e = api.ErrDeep
	}
	wantCheck(t, n, e)
}

// TestOrderOfErrors: the errors of tree.Check come ahead of an early error.
func TestOrderOfErrors(t *testing.T) {
	early := []api.Node{node(api.SReturn), node(api.SBreak), named(api.SContinue, "a"), node(api.SVar, named(api.SDecl, "eval")), parsed(t, "a: a: ;").L[0], parsed(t, "delete x;").L[0]}
	wrong := []api.Node{{}, {Kind: 43}, node(api.Empty), program(), {Kind: api.SEmpty, Num: 1}, named(api.SBreak, "in"), node(api.SVar), named(api.EName, "x"), named(api.SFunc, "f"), named(api.SDecl, "v")}
	fine := parsed(t, "while (x) break;").L[0]
	for times := range 70 {
		wantUnlessDeep(t, api.OK, deep(fine, times))
		for _, e := range early {
			wantUnlessDeep(t, api.ErrEarly, deep(e, times))
			wantUnlessDeep(t, api.ErrEarly, deep(e, times), fine)
			wantUnlessDeep(t, api.ErrEarly, fine, deep(e, times))
			wantUnlessDeep(t, api.ErrEarly, e, deep(fine, times))
			wantUnlessDeep(t, api.ErrEarly, deep(fine, times), e)
			for _, w := range wrong {
				wantCheck(t, program(deep(e, times), node(api.SBlock, w)), api.ErrTree)
				wantCheck(t, program(node(api.SBlock, w), deep(e, times)), api.ErrTree)
			}
		}
	}
	for _, e := range early {
		wantCheck(t, e, api.ErrTree)
		wantCheck(t, node(api.SBlock, e), api.ErrTree)
	}
}

// TestDeepFunctions: an early error in the innermost of many functions, as deep as can be.
func TestDeepFunctions(t *testing.T) {
	for _, fill := range []func(api.Node) api.Node{
		func(n api.Node) api.Node { return named(api.SFunc, "f", n) },
		func(n api.Node) api.Node { return node(api.SExpr, node(api.EFunc, n)) },
	} {
		for _, x := range []struct {
			n    api.Node
			want api.Errno
		}{{node(api.SReturn), api.OK}, {node(api.SBreak), api.ErrEarly}} {
			n := x.n
			for tree.Deep(program(fill(n))) <= 64 {
				n = fill(n)
				wantCheck(t, program(n), x.want)
			}
			wantCheck(t, program(fill(n)), api.ErrDeep)
		}
	}
}

// TestWide: the first and the last of very many.
func TestWide(t *testing.T) {
	var l, props []api.Node
	var names []string
	for i := range 100000 {
		s := "v" + strconv.Itoa(i)
		l = append(l, node(api.SVar, named(api.SDecl, s)))
		props = append(props, api.Node{Kind: api.EProp, Text: string([]byte{byte(i >> 16), byte(i >> 8), 0, byte(i)}), L: []api.Node{node(api.ENull)}})
		names = append(names, s)
	}
	f := api.Node{Kind: api.SFunc, Name: "f", Names: names}
	l = append(l, node(api.SExpr, node(api.EObject, props...)), f)
	wantCheck(t, program(l...), api.OK)
	if got := scope.Vars(append(l, l...)); !slices.Equal(got, names) {
		t.Errorf("got %d names", len(got))
	}
	wantCheck(t, program(append(l, node(api.SBreak))...), api.ErrEarly)
	wantCheck(t, program(append(l, node(api.SExpr, node(api.EObject, append(props, props[0])...)))...), api.ErrEarly)
	f.Names = append(names, "v7")
	wantCheck(t, program(append(l, f)...), api.ErrEarly)
}

// P9.2

func TestVars(t *testing.T) {
	for src, want := range map[string]string{
		"":                               "",
		"x = 1; y: ; delete z.v;":        "",
		"var a;":                         "a",
		"var a = 1;":                     "a",
		"var b, a, c;":                   "b a c",
		"var b = a, a = b; var c;":       "b a c",
		"var a, a; var b, a; var b;":     "a b",
		"var b; var a; var b; var c = b": "b a c",
		"var A, a, aa, $, _;":            "A a aa $ _",
		"var eval, arguments;":           "eval arguments",
		"{ var a; { var b; } var c; }":   "a b c",
		"if (x) var a; else var b;":      "a b",
		"while (x) var a;":               "a",
		"do { var b; } while (x); var a": "b a",
		"for (var c = 1, a; ; ) var b;":  "c a b",
		"for (var c in x) { var b, a; }": "c b a",
		"for (x in y) var a;":            "a",
		"try { var c; } catch (e) { var b; } finally { var a; }": "c b a",
		"try { } catch (e) { }":                                  "",
		"try { var e; } finally { var d; }":                      "e d",
		"switch (x) { case 1: var b; var a; default: var c; }":   "b a c",
		"a: b: var c;":                                               "c",
		"a: { var a; }":                                              "a",
		"function f(a, b) { var c; }":                                "",
		"var x = function f(a) { var b; }, y;":                       "x y",
		"(function () { var a; }); var b;":                           "b",
		"var b; function f() { var a; } var c;":                      "b c",
		"while (function () { var a; }) var b;":                      "b",
		"x = {p: [function () { return function () { var a; } }]};":  "",
		"for (var a = function () { var b; }, c; ; ) var d;":         "a c d",
		"switch (function () { var a; }) { case x: var b; }":         "b",
		"do var a; while (function () { var b; }); var b;":           "a b",
		"if (x) { for (var i in z) { try { var q; } finally { } } }": "i q",
	} {
		n := parsed(t, src)
		if got := scope.Vars(n.L); strings.Join(got, " ") != want {
			t.Errorf("%q: got %q, want %q", src, got, want)
		}
		wantDeclared(t, n.L)
	}
	f := parsed(t, "function f(a) { var b; function g(c) { var d; } (function (e) { var f; }); var g; }").L[0]
	if got := scope.Vars(f.L); !slices.Equal(got, []string{"b", "g"}) {
		t.Errorf("in a function: got %q", got)
	}
}

func TestFuncs(t *testing.T) {
	for src, want := range map[string]string{
		"":                                     "",
		"x; var f = function g() { };":         "",
		"(function f() { });":                  "",
		"function f() { }":                     "f",
		"function g() { } x; function f() { }": "g f",
		"function f() { 1; } function f() { } function g(a) { } function f() { 1; }":   "f f g f",
		"function f() { function g() { } } x; { (function () { function h() { } }); }": "f",
		"function eval(a, a) { break; }":                                               "eval",
		"while (1) { } function a() { } if (x) { } function b() { } var c; a: ;":       "a b",
	} {
		n := parsed(t, src)
		var names []string
		for _, f := range scope.Funcs(n.L) {
			names = append(names, f.Name)
		}
		if strings.Join(names, " ") != want {
			t.Errorf("%q: got %q, want %q", src, names, want)
		}
		wantDeclared(t, n.L)
	}
}

// TestAnyNodes: lists of nodes that are no statements, or not valid.
func TestAnyNodes(t *testing.T) {
	decl, inner := named(api.SDecl, "a"), named(api.SDecl, "b")
	for _, x := range []struct {
		l    []api.Node
		want []string
	}{
		{nil, nil},
		{[]api.Node{}, nil},
		{[]api.Node{{}}, nil},
		{[]api.Node{decl}, []string{"a"}},
		{[]api.Node{inner, decl, inner}, []string{"b", "a"}},
		{[]api.Node{named(api.SDecl, "")}, []string{""}},
		{[]api.Node{named(api.SDecl, "in"), named(api.SDecl, "\xff"), named(api.SDecl, "in")}, []string{"in", "\xff"}},
		{[]api.Node{{Kind: api.SDecl, Name: "a", Num: 5, Text: "t", Names: []string{"x"}, L: []api.Node{inner, inner}}}, []string{"a", "b"}},
		{[]api.Node{named(api.SDecl, "b", decl, named(api.SDecl, "c", inner), named(api.SDecl, "d"))}, []string{"b", "a", "c", "d"}},
		{[]api.Node{program(decl), inner}, []string{"a", "b"}},
		{[]api.Node{node(-1, node(99, decl), inner)}, []string{"a", "b"}},
		{[]api.Node{node(api.ENum, decl), node(api.Empty, inner)}, []string{"a", "b"}},
		{[]api.Node{node(api.EFunc, decl), inner}, []string{"b"}},
		{[]api.Node{node(api.SFunc, decl), inner}, []string{"b"}},
		{[]api.Node{node(api.SBlock, node(api.SFunc, decl), inner)}, []string{"b"}},
		{[]api.Node{node(api.SFor), node(api.SVar), node(api.STry, decl), node(api.SForIn), node(api.SLabel), node(api.EUnary), node(api.EAssign)}, []string{"a"}},
	} {
		if got := scope.Vars(x.l); !slices.Equal(got, x.want) {
			t.Errorf("Vars of %v: got %q, want %q", x.l, got, x.want)
		}
		wantDeclared(t, x.l)
		for _, n := range x.l {
			wantCheck(t, n, tree.Check(n))
			wantCheck(t, program(n), tree.Check(program(n)))
		}
	}
	for kind := -1; kind < 45; kind++ {
		n := api.Node{Kind: kind, Name: "f", Num: -7, Text: "t", Names: []string{"eval", "eval"}, L: []api.Node{named(api.SFunc, "g"), node(kind, decl)}}
		want := 0
		if kind == api.SFunc {
			want = 2
		}
		if got := scope.Funcs([]api.Node{n, node(api.ENull), n}); len(got) != want || want > 0 && (!tree.Same(got[0], n) || !tree.Same(got[1], n)) {
			t.Errorf("Funcs of the Kind %d: got %v", kind, got)
		}
		wantDeclared(t, []api.Node{n, decl, n})
	}
}

// TestDeepNodes: nodes that are not valid may be nested more deeply than a stack can hold.
func TestDeepNodes(t *testing.T) {
	defer debug.SetMaxStack(debug.SetMaxStack(1 << 20))
	const times = 100000
	a, b := deep(named(api.SDecl, "a"), times), deep(named(api.SDecl, "b"), times)
	l := []api.Node{a, named(api.SFunc, "f", a), b, a}
	if got := scope.Vars(l); !slices.Equal(got, []string{"a", "b"}) {
		t.Errorf("got %q", got)
	}
	if got := scope.Funcs(l); len(got) != 1 || !tree.Same(got[0], l[1]) {
		t.Errorf("got %d functions", len(got))
	}
	f := node(api.SReturn)
	for range times {
		f = named(api.SFunc, "f", f)
	}
	if got := scope.Funcs([]api.Node{f}); len(got) != 1 || !tree.Same(got[0], f) {
		t.Errorf("functions in one another: got %d", len(got))
	}
	for want, n := range map[api.Errno]api.Node{api.ErrTree: program(a), api.ErrDeep: program(f, deep(node(api.SReturn), times))} {
		if got := scope.Check(n); got != want {
			t.Errorf("got %d, want %d", got, want)
		}
	}
}
