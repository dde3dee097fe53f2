package parse_test

import (
	"cmp"
	"math/rand/v2"
	"slices"
	"strings"
	"testing"
	"unsafe"

	"credenza/api"
	"credenza/parse"
	"credenza/tree"
	"credenza/units"
)

func node(kind int, l ...api.Node) api.Node {
	return api.Node{Kind: kind, L: l}
}

func named(kind int, s string, l ...api.Node) api.Node {
	return api.Node{Kind: kind, Name: s, L: l}
}

func name(s string) api.Node {
	return named(api.EName, s)
}

func num(n int64) api.Node {
	return api.Node{Kind: api.ENum, Num: n}
}

func str(s string) api.Node {
	return api.Node{Kind: api.EStr, Text: wide(s)}
}

func prop(s string, v api.Node) api.Node {
	return api.Node{Kind: api.EProp, Text: wide(s), L: []api.Node{v}}
}

func program(l ...api.Node) api.Node {
	return node(api.Program, l...)
}

// say is a statement of one expression.
func say(n api.Node) api.Node {
	return node(api.SExpr, n)
}

// wantTexts wants each source's tree to have that text.
func wantTexts(t *testing.T, table map[string]string) {
	t.Helper()
	for src, want := range table {
		n, at, e := parse.Program(src)
		s, _ := tree.Text(n)
		if s != want || at != 0 || e != api.OK {
			t.Errorf("%q: got %q, %d, %d, want %q", src, s, at, e, want)
			continue
		}
		wantText(t, src, n)
		wantRead(t, src)
	}
}

// wantWrong wants an error at the @ of each source, which is no part of it.
func wantWrong(t *testing.T, sources ...string) {
	t.Helper()
	for _, marked := range sources {
		ahead, behind, _ := strings.Cut(marked, "@")
		src := ahead + behind
		n, at, e := parse.Program(src)
		if at != len(ahead) || e != api.ErrSyntax || !tree.Same(n, api.Node{}) {
			t.Errorf("%q: got %v, %d, %d, want %d", src, n, at, e, len(ahead))
		}
		wantRead(t, src)
	}
}

// P8.1

func TestTrees(t *testing.T) {
	a, b, empty := name("a"), name("b"), node(api.Empty)
	ahead := named(api.EUpdate, "++", name("c"))
	ahead.Num = 1
	block := node(api.SBlock, say(b))
	for src, want := range map[string]api.Node{
		"":                 program(),
		"a = b\n++c":       program(say(named(api.EAssign, "=", a, b)), say(ahead)),
		"return\na":        program(node(api.SReturn), say(a)),
		"return a, 1":      program(node(api.SReturn, node(api.EComma, a, num(1)))),
		"if (a) b; else c": program(node(api.SIf, a, block, node(api.SBlock, say(name("c"))))),
		"if (a) { b }":     program(node(api.SIf, a, block)),
		"[0x1F, 'b']":      program(say(node(api.EArray, num(31), str("b")))),
		"({a: 1, 'b': a, if: true, 0x10: null})": program(say(node(api.EObject,
			prop("a", num(1)), prop("b", a), prop("if", api.Node{Kind: api.EBool, Num: 1}), prop("16", node(api.ENull))))),
		"function f(a, b) { this } ;": program(
			api.Node{Kind: api.SFunc, Name: "f", Names: []string{"a", "b"}, L: []api.Node{say(node(api.EThis))}}, node(api.SEmpty)),
		"(function f() {})":                program(say(named(api.EFunc, "f"))),
		"(function (a) {})":                program(say(api.Node{Kind: api.EFunc, Names: []string{"a"}})),
		"a.if[false]":                      program(say(node(api.EIndex, named(api.EMember, "if", a), node(api.EBool)))),
		"new a(1).b(b)":                    program(say(node(api.ECall, named(api.EMember, "b", node(api.ENew, a, num(1))), b))),
		"- a ++":                           program(say(named(api.EUnary, "-", named(api.EUpdate, "++", a)))),
		"a in b":                           program(say(named(api.EBinary, "in", a, b))),
		"a && b":                           program(say(named(api.ELogic, "&&", a, b))),
		"a ? b : 1":                        program(say(node(api.ECond, a, b, num(1)))),
		"var a, b = 1":                     program(node(api.SVar, named(api.SDecl, "a"), named(api.SDecl, "b", num(1)))),
		"while (a) b":                      program(node(api.SWhile, a, block)),
		"do b; while (a)":                  program(node(api.SDo, block, a)),
		"for (;;) b":                       program(node(api.SFor, empty, empty, empty, block)),
		"for (var a;;) {}":                 program(node(api.SFor, node(api.SVar, named(api.SDecl, "a")), empty, empty, node(api.SBlock))),
		"for (a; 1; b) b":                  program(node(api.SFor, a, num(1), b, block)),
		"for (a in b) b":                   program(node(api.SForIn, a, b, block)),
		"for (var a in b) b":               program(node(api.SForIn, node(api.SVar, named(api.SDecl, "a")), b, block)),
		"break a":                          program(named(api.SBreak, "a")),
		"continue":                         program(node(api.SContinue)),
		"throw a":                          program(node(api.SThrow, a)),
		"try {b} catch (a) {}":             program(named(api.STry, "a", block, node(api.SBlock), empty)),
		"try {b} finally {}":               program(node(api.STry, block, empty, node(api.SBlock))),
		"try {} catch (a) {} finally {b}":  program(named(api.STry, "a", node(api.SBlock), node(api.SBlock), block)),
		"switch (a) {case b: b; default:}": program(node(api.SSwitch, a, node(api.SCase, b, say(b)), node(api.SCase, empty))),
		"a: b":                             program(named(api.SLabel, "a", say(b))),
	} {
		wantProgram(t, src, want, 0, api.OK)
		wantRead(t, src)
	}
}

// TestLevels: which operator has its operands first.
func TestLevels(t *testing.T) {
	wantTexts(t, map[string]string{
		"a, b, c":                    "a , b , c ;",
		"a, (b, c)":                  "a , ( b , c ) ;",
		"a = b, c = 1":               "a = b , c = 1 ;",
		"a = b += c -= 1":            "a = b += c -= 1 ;",
		"a = (b, c)":                 "a = ( b , c ) ;",
		"a *= b /= c %= 1":           "a *= b /= c %= 1 ;",
		"a ? b : c ? 1 : 2":          "a ? b : c ? 1 : 2 ;",
		"(a ? b : c) ? 1 : 2":        "( a ? b : c ) ? 1 : 2 ;",
		"a ? b ? c : 1 : 2":          "a ? b ? c : 1 : 2 ;",
		"a ? b = 1 : c = 2":          "a ? b = 1 : c = 2 ;",
		"a = b ? c : 1, 2":           "a = b ? c : 1 , 2 ;",
		"a || b && c || 1":           "a || b && c || 1 ;",
		"(a || b) && (c || 1)":       "( a || b ) && ( c || 1 ) ;",
		"a && b == c && 1":           "a && b == c && 1 ;",
		"a == b < c == 1":            "a == b < c == 1 ;",
		"a == (b == c)":              "a == ( b == c ) ;",
		"(a == b) != c === 1 !== 2":  "a == b != c === 1 !== 2 ;",
		"a < b + c > 1":              "a < b + c > 1 ;",
		"(a < b) <= c >= 1":          "a < b <= c >= 1 ;",
		"a in b instanceof c":        "a in b instanceof c ;",
		"a in (b instanceof c)":      "a in ( b instanceof c ) ;",
		"a + b * c - 1 / 2 % 3":      "a + b * c - 1 / 2 % 3 ;",
		"(a + b) * (c - 1)":          "( a + b ) * ( c - 1 ) ;",
		"a - (b - c)":                "a - ( b - c ) ;",
		"(a - b) - c":                "a - b - c ;",
		"a * - b":                    "a * - b ;",
		"- (a * b)":                  "- ( a * b ) ;",
		"- + ! typeof delete void a": "- + ! typeof delete void a ;",
		"- - a - - b":                "- - a - - b ;",
		"- -- a + + ++ b":            "- -- a + + ++ b ;",
		"typeof a . b ( )":           "typeof a . b ( ) ;",
		"(typeof a).b":               "( typeof a ) . b ;",
		"! a ++":                     "! a ++ ;",
		"a ++ + ++ b":                "a ++ + ++ b ;",
		"(a ++)()":                   "( a ++ ) ( ) ;",
		"++ a . b [ c ]":             "++ a . b [ c ] ;",
		"-- a ( ) . b":               "-- a ( ) . b ;",
		"++ new a . b ( ) . c":       "++ new a . b ( ) . c ;",
		"a.b.c[1][2](3)(4).d":        "a . b . c [ 1 ] [ 2 ] ( 3 ) ( 4 ) . d ;",
		"a[b, c]":                    "a [ b , c ] ;",
		"a(b, (c, 1))":               "a ( b , ( c , 1 ) ) ;",
		"[a, (b, c)]":                "[ a , ( b , c ) ] ;",
		"a(b = 1, c ? 1 : 2)":        "a ( b = 1 , c ? 1 : 2 ) ;",
		"'a'.b + 1 .c":               `"a" . b + 1 . c ;`,
		"this.a, null, true, false":  "this . a , null , true , false ;",
		"0 || '\\x41' && \"\"":       `0 || "A" && "" ;`,
	})
}

// TestBlanks: what may stand between tokens, and what need not.
func TestBlanks(t *testing.T) {
	wantTexts(t, map[string]string{
		"":                                  "",
		" \t\v\f\r\n":                       "",
		"// a":                              "",
		"/* a\n b */":                       "",
		"a+b":                               "a + b ;",
		"a+/**/+b":                          "a + + b ;",
		"a+ +b":                             "a + + b ;",
		"a- -b":                             "a - - b ;",
		"a/ /**/b":                          "a / b ;",
		"var/**/a=1,b='c';":                 `var a = 1 , b = "c" ;`,
		"if(a)b;else/**/c":                  "if ( a ) { b ; } else { c ; }",
		"a//\n+b":                           "a + b ;",
		"a\n(b)":                            "a ( b ) ;",
		"a\n[b]\n.\nc":                      "a [ b ] . c ;",
		"a\n=\nb\n?\nc\n:\n1\n;":            "a = b ? c : 1 ;",
		"++\na":                             "++ a ;",
		"new\na\n(\n)":                      "new a ( ) ;",
		"throw/* */a":                       "throw a ;",
		"for\n(\nvar\na\nin\nb\n)\nc":       "for ( var a in b ) { c ; }",
		"function\nf\n(\na\n,\nb\n)\n{\n}":  "function f ( a , b ) { }",
		"do\na\nwhile\n(\nb\n)\n;":          "do { a ; } while ( b ) ;",
		"a\n:\nb":                           "a : b ;",
		"switch(a){case/**/1:case'b':b}":    `switch ( a ) { case 1 : case "b" : b ; }`,
		"try\n{\n}\ncatch\n(\na\n)\n{\n}\n": "try { } catch ( a ) { }",
		"return'a'":                         `return "a" ;`,
		"typeof(a)":                         "typeof a ;",
	})
}

// TestBrackets: any expression may be enclosed, again and again.
func TestBrackets(t *testing.T) {
	wantTexts(t, map[string]string{
		"(a)":                           "a ;",
		"(((a)))":                       "a ;",
		"((a) + ((b)) * (c))":           "a + b * c ;",
		"(a) = (b)":                     "a = b ;",
		"((a.b)) += 1":                  "a . b += 1 ;",
		"(a[b])++":                      "a [ b ] ++ ;",
		"--((a))":                       "-- a ;",
		"++(a).b":                       "++ a . b ;",
		"(1).a = 2":                     "1 . a = 2 ;",
		"(a, b)()":                      "( a , b ) ( ) ;",
		"(a)((b), (c))":                 "a ( b , c ) ;",
		"(a)[(b)].c":                    "a [ b ] . c ;",
		"delete (a)":                    "delete a ;",
		"(a) ? (b) : (c)":               "a ? b : c ;",
		"new (a)((b))":                  "new a ( b ) ;",
		"new (a())":                     "new ( a ( ) ) ( ) ;",
		"new (a().b)(1)":                "new ( a ( ) . b ) ( 1 ) ;",
		"[(a), ((b, c))]":               "[ a , ( b , c ) ] ;",
		"({a: (1)})":                    `( { "a" : 1 } ) ;`,
		"({}).a":                        "( { } . a ) ;",
		"({}.a)":                        "( { } . a ) ;",
		"a = {}":                        "a = { } ;",
		"a, {}":                         "a , { } ;",
		"(function () {})()":            "( function ( ) { } ( ) ) ;",
		"(function () {}())":            "( function ( ) { } ( ) ) ;",
		"a = function () {} ()":         "a = function ( ) { } ( ) ;",
		"!function () {} ()":            "! function ( ) { } ( ) ;",
		"if ((a)) b":                    "if ( a ) { b ; }",
		"while ((a, b)) c":              "while ( a , b ) { c ; }",
		"for ((a); (b); (c)) 1":         "for ( a ; b ; c ) { 1 ; }",
		"for ((a) in (b)) 1":            "for ( a in b ) { 1 ; }",
		"for (((a.b)) in b) 1":          "for ( a . b in b ) { 1 ; }",
		"return (a)":                    "return a ;",
		"throw (a, b)":                  "throw a , b ;",
		"switch ((a)) { case (b): }":    "switch ( a ) { case b : }",
		"var a = (b, c)":                "var a = ( b , c ) ;",
		"for ({}.a in b) ;":             "for ( { } . a in b ) { ; }",
		"for (function () {}.a in b) ;": "for ( function ( ) { } . a in b ) { ; }",
		"for ({}; ;) ;":                 "for ( { } ; ; ) { ; }",
		"return {}":                     "return { } ;",
		"throw function () {}":          "throw function ( ) { } ;",
		"(a ? b : c).d = 1":             "( a ? b : c ) . d = 1 ;",
		"(a = b).c = (d += 1)":          "( a = b ) . c = d += 1 ;",
		strings.Repeat("(", 2047) + "a" + strings.Repeat(")", 2047): "a ;",
	})
	wantWrong(t, "(a@", "(@)", "(a@;)", "(a@]", "a@)", "((a)@", "(a)@: b", "(a,@)", "(@var", "(a) @b")
}

// TestSemicolons: where they may be omitted, and where not.
func TestSemicolons(t *testing.T) {
	wantTexts(t, map[string]string{
		"a\nb":                                "a ; b ;",
		"a\n;b":                               "a ; b ;",
		"a;;b":                                "a ; ; b ;",
		"a\n;\n;b":                            "a ; ; b ;",
		"{ a }":                               "{ a ; }",
		"{ var a }":                           "{ var a ; }",
		"{ a\n}":                              "{ a ; }",
		"var a\nvar b = 1\nb":                 "var a ; var b = 1 ; b ;",
		"var a\n= 1":                          "var a = 1 ;",
		"var a\n, b":                          "var a , b ;",
		"var a\n(b)":                          "var a ; b ;",
		"var a = b\n(c)":                      "var a = b ( c ) ;",
		"a\n++b":                              "a ; ++ b ;",
		"a\n++\nb":                            "a ; ++ b ;",
		"a\n--b":                              "a ; -- b ;",
		"a++\nb":                              "a ++ ; b ;",
		"a++\n++b":                            "a ++ ; ++ b ;",
		"a++\n(b)":                            "a ++ ; b ;",
		"a++\n[b, ]":                          "a ++ ; [ b ] ;",
		"++a\n++b":                            "++ a ; ++ b ;",
		"1\n++b":                              "1 ; ++ b ;",
		"a\n+b":                               "a + b ;",
		"a\n-b":                               "a - b ;",
		"a\n{ b }":                            "a ; { b ; }",
		"a\n!b":                               "a ; ! b ;",
		"a\ntypeof b":                         "a ; typeof b ;",
		"a\nin b":                             "a in b ;",
		"a\nfunction f() {}":                  "a ; function f ( ) { }",
		"a\nb: c":                             "a ; b : c ;",
		"a\n'b'":                              `a ; "b" ;`,
		"a\n1":                                "a ; 1 ;",
		"new a\nb":                            "new a ( ) ; b ;",
		"new a\n++b":                          "new a ( ) ; ++ b ;",
		"break\na":                            "break ; a ;",
		"break a\nb":                          "break a ; b ;",
		"break\n;a":                           "break ; a ;",
		"break":                               "break ;",
		"{ break }":                           "{ break ; }",
		"{ break a }":                         "{ break a ; }",
		"break\na: b":                         "break ; a : b ;",
		"continue\na":                         "continue ; a ;",
		"continue a\nb":                       "continue a ; b ;",
		"continue\n;a":                        "continue ; a ;",
		"{ continue }":                        "{ continue ; }",
		"return\na":                           "return ; a ;",
		"return\n;a":                          "return ; a ;",
		"return\n(a)":                         "return ; a ;",
		"return":                              "return ;",
		"{ return }":                          "{ return ; }",
		"{ return a }":                        "{ return a ; }",
		"return a\nb":                         "return a ; b ;",
		"return /* \n */ a":                   "return ; a ;",
		"throw a\nb":                          "throw a ; b ;",
		"{ throw a }":                         "{ throw a ; }",
		"throw a":                             "throw a ;",
		"throw a\n;b":                         "throw a ; b ;",
		"do a; while (b)\nc":                  "do { a ; } while ( b ) ; c ;",
		"{ do a; while (b) }":                 "{ do { a ; } while ( b ) ; }",
		"do a\nwhile (b)":                     "do { a ; } while ( b ) ;",
		"do {} while (b)":                     "do { } while ( b ) ;",
		"do {} while (b)\n;c":                 "do { } while ( b ) ; c ;",
		"do {} while (b);c":                   "do { } while ( b ) ; c ;",
		"do while (a) b; while (c)":           "do { while ( a ) { b ; } } while ( c ) ;",
		"do do a; while (b); while (c)":       "do { do { a ; } while ( b ) ; } while ( c ) ;",
		"if (a) b\nelse c":                    "if ( a ) { b ; } else { c ; }",
		"if (a) return\nelse b":               "if ( a ) { return ; } else { b ; }",
		"if (a) do b; while (c); else 1":      "if ( a ) { do { b ; } while ( c ) ; } else { 1 ; }",
		"if (a) do b; while (c)\nelse 1":      "if ( a ) { do { b ; } while ( c ) ; } else { 1 ; }",
		"switch (a) { case 1: b\ncase 2: c }": "switch ( a ) { case 1 : b ; case 2 : c ; }",
		"function f() { a }":                  "function f ( ) { a ; }",
		"a = function () { b }":               "a = function ( ) { b ; } ;",
		"{} a":                                "{ } a ;",
		"{} + 1":                              "{ } + 1 ;",
		"function f() {} (a)":                 "function f ( ) { } a ;",
		"if (a) {} b":                         "if ( a ) { } b ;",
		"a // b\nc":                           "a ; c ;",
		"a /* \r */ b":                        "a ; b ;",
	})
	wantWrong(t,
		"a @b", "a; b @c", "a /* b */ @c", "a @'b'", "a @1", "1 @a", "a @{ b }", "a @!b", "a @typeof b", "a @function f() {}",
		"{ a @b }", "a @b: c", "a @if (b) c", "var a @b", "var a = 1 @b", "var a @{}", "break a @b", "break @1", "break @(a)", "continue a @b", "continue @1",
		"break a @: b", "return a @b", "throw a @b", "do a @while (b)", "do {} while (a) @b", "if (a) b @else c", "if (a) do b; while (c) @else 1",
		"if (a) b;; @else c", "if (a) {}; @else c", "switch (a) { case 1: b @case 2: c }", "switch (a) { case 1: b @default: c }",
		"for (a\n@) b", "for (a\n@b)", "for (a; b\n@) c", "for (var a\n@b; ;) c", "if (a\n@b) c", "a(b\n@c)", "[a\n@b]",
		"throw\n@a", "throw\n@;", "throw@", "throw\n@", "throw @;", "{ throw @}", "throw /* \n */ @a", "throw // \r@a",
		"a\n++@", "a ++\n@)", "a\n[b, @]", "a\n@]", "a\n[@]", "a ++ @(b)", "a ++ @[b]", "a ++ @.b", "++ a @{}")
}

// TestBodies: any statement but a function may be one, and becomes a block.
func TestBodies(t *testing.T) {
	statements := map[string]string{
		"a;": "a ;", ";": ";", "var a;": "var a ;", "if (a) b;": "if ( a ) { b ; }", "while (a);": "while ( a ) { ; }",
		"do a; while (b);": "do { a ; } while ( b ) ;", "for (;;) a;": "for ( ; ; ) { a ; }", "for (a in b);": "for ( a in b ) { ; }",
		"break;": "break ;", "continue a;": "continue a ;", "return;": "return ;", "throw a;": "throw a ;",
		"try {} finally {}": "try { } finally { }", "switch (a) {}": "switch ( a ) { }", "a: b;": "a : b ;", "a: {}": "a : { }",
	}
	heads := map[string]string{
		"if (a) ": "if ( a ) ", "while (a) ": "while ( a ) ", "for (;;) ": "for ( ; ; ) ", "for (a in b) ": "for ( a in b ) ",
		"for (var a in b) ": "for ( var a in b ) ", "if (a) {} else ": "if ( a ) { } else ",
	}
	for head, headText := range heads {
		for statement, text := range statements {
			wantTexts(t, map[string]string{
				head + statement:               headText + "{ " + text + " }",
				head + "{" + statement + "}":   headText + "{ " + text + " }",
				head + "{{" + statement + "}}": headText + "{ { " + text + " } }",
			})
		}
		wantTexts(t, map[string]string{head + "{}": headText + "{ }", head + "{;}": headText + "{ ; }", head + "{a; b}": headText + "{ a ; b ; }"})
		wantWrong(t, head+"@function f() {}", head+"@", head+"@}", head+"@)", head+"@case", head+"{@function f() {}}", head+"a: @function f() {}")
	}
	for statement, text := range statements {
		wantTexts(t, map[string]string{
			"do " + statement + " while (c)":            "do { " + text + " } while ( c ) ;",
			"if (a) {" + statement + "} else b":         "if ( a ) { " + text + " } else { b ; }",
			"c: " + statement:                           "c : " + text,
			"c: {" + statement + "}":                    "c : { " + text + " }",
			"switch (a) { default: " + statement + " }": "switch ( a ) { default : " + text + " }",
		})
	}
	wantWrong(t, "do @function f() {}", "do @", "do a; @", "do {} @a", "do {} while @a", "do {} while (a@", "do {} while (@)", "a: @function f() {}", "a: @", "a: @}")
}

// TestElse: an else belongs to the nearest if.
func TestElse(t *testing.T) {
	wantTexts(t, map[string]string{
		"if (a) if (b) c; else 1":                           "if ( a ) { if ( b ) { c ; } else { 1 ; } }",
		"if (a) if (b) c; else 1; else 2":                   "if ( a ) { if ( b ) { c ; } else { 1 ; } } else { 2 ; }",
		"if (a) { if (b) c } else 1":                        "if ( a ) { if ( b ) { c ; } } else { 1 ; }",
		"if (a) b; else if (c) 1; else 2":                   "if ( a ) { b ; } else { if ( c ) { 1 ; } else { 2 ; } }",
		"if (a) while (b) if (c) 1; else 2":                 "if ( a ) { while ( b ) { if ( c ) { 1 ; } else { 2 ; } } }",
		"if (a) for (;;) x: if (c) 1; else 2":               "if ( a ) { for ( ; ; ) { x : if ( c ) { 1 ; } else { 2 ; } } }",
		"if (a) do if (b) c; else 1; while (2); else 3":     "if ( a ) { do { if ( b ) { c ; } else { 1 ; } } while ( 2 ) ; } else { 3 ; }",
		"if (a) ; else ;":                                   "if ( a ) { ; } else { ; }",
		"if (a) if (b) ; else if (c) ; else ; else { ; } ;": "if ( a ) { if ( b ) { ; } else { if ( c ) { ; } else { ; } } } else { ; } ;",
	})
	wantWrong(t, "@else a", "a; @else b", "if (a) b; c; @else 1", "if (a) b; else c; @else 1", "{ @else }", "while (a) b; @else c", "if (a) @else b")
}

// TestNew: arguments belong to the nearest new that has none.
func TestNew(t *testing.T) {
	wantTexts(t, map[string]string{
		"new a":                 "new a ( ) ;",
		"new a()":               "new a ( ) ;",
		"new a(1, 2)":           "new a ( 1 , 2 ) ;",
		"new a\n(1)":            "new a ( 1 ) ;",
		"new a.b.c":             "new a . b . c ( ) ;",
		"new a[b]":              "new a [ b ] ( ) ;",
		"new a.b(1).c":          "new a . b ( 1 ) . c ;",
		"new a()()":             "new a ( ) ( ) ;",
		"new a(1)(2)(3)":        "new a ( 1 ) ( 2 ) ( 3 ) ;",
		"new new a":             "new new a ( ) ( ) ;",
		"new new a(1)":          "new new a ( 1 ) ( ) ;",
		"new new a(1)(2)":       "new new a ( 1 ) ( 2 ) ;",
		"new new a(1)(2)(3)":    "new new a ( 1 ) ( 2 ) ( 3 ) ;",
		"new new a(1).b(2)":     "new new a ( 1 ) . b ( 2 ) ;",
		"new new a.b(1)":        "new new a . b ( 1 ) ( ) ;",
		"(new a)(b)":            "new a ( ) ( b ) ;",
		"(new a).b":             "new a ( ) . b ;",
		"new (new a)(b)":        "new new a ( ) ( b ) ;",
		"new (new a.b).c":       "new new a . b ( ) . c ( ) ;",
		"new function () {}":    "new function ( ) { } ( ) ;",
		"new function () {}()":  "new function ( ) { } ( ) ;",
		"new {}.a":              "new { } . a ( ) ;",
		"new this, new 1":       "new this ( ) , new 1 ( ) ;",
		"- new a + new b":       "- new a ( ) + new b ( ) ;",
		"new a ? new b : new c": "new a ( ) ? new b ( ) : new c ( ) ;",
		"new a().b = 1":         "new a ( ) . b = 1 ;",
		"new a().b++":           "new a ( ) . b ++ ;",
		"a(new b, new c)":       "a ( new b ( ) , new c ( ) ) ;",
	})
	wantWrong(t, "new@", "new @;", "new @-a", "new (@)", "new @++ a", "new @!a", "new a @++", "new a @= 1", "new a.b @= 1", "new a() @= 1", "new a(@", "new a(1@", "new a(1 @2)", "new a(1, @)", "new a @b", "new @typeof a", "++ new a@", "for (new a @in b) c")
}

// TestLists: where a comma may stand behind the last, and where not.
func TestLists(t *testing.T) {
	wantTexts(t, map[string]string{
		"[]":                               "[ ] ;",
		"[a]":                              "[ a ] ;",
		"[a, ]":                            "[ a ] ;",
		"[a, b, ]":                         "[ a , b ] ;",
		"[[], [], ]":                       "[ [ ] , [ ] ] ;",
		"({})":                             "( { } ) ;",
		"({a: 1, })":                       `( { "a" : 1 } ) ;`,
		"a()":                              "a ( ) ;",
		"a(b, c)":                          "a ( b , c ) ;",
		"a = function (b, c) {}":           "a = function ( b , c ) { } ;",
		"({a: b = 1, c: 2 ? 3 : 4, })":     `( { "a" : b = 1 , "c" : 2 ? 3 : 4 } ) ;`,
		"({a: 1, 'a': 2, \"a\": 3})":       `( { "a" : 1 , "a" : 2 , "a" : 3 } ) ;`,
		"({'': 1, '\\n': 2})":              `( { "" : 1 , "\n" : 2 } ) ;`,
		"({0: 1, 10: 2, 0x1f: 3, 0X0: 4})": `( { "0" : 1 , "10" : 2 , "31" : 3 , "0" : 4 } ) ;`,
		"({9007199254740991: 1})":          `( { "9007199254740991" : 1 } ) ;`,
		"({in: 1, function: 2, null: 3, $: 4, get: 5})": `( { "in" : 1 , "function" : 2 , "null" : 3 , "$" : 4 , "get" : 5 } ) ;`,
		"({class: 1, yield: 2})":                        `( { "class" : 1 , "yield" : 2 } ) ;`,
	})
	wantWrong(t,
		"[@,]", "[a,@,]", "[a, b,@,]", "[@", "[a@", "[a,@", "[a @b]", "[a@)", "[@;]", "a[@]", "a[b,@]", "a[b@",
		"({@,})", "({a: 1,@,})", "({@", "({a@})", "({a@, b})", "({a:@})", "({a: 1@", "({a: 1 @b: 2})", "({a: 1@;})", "({@[a]: 1})", "({@(a): 1})", "({get @a() {}})", "({a@() {}})", "({@-1: 1})", "({a@= 1})",
		"a(@,)", "a(b,@)", "a(b,@,c)", "a(@", "a(b@", "a(b@;)", "a(b@]",
		"(function (@,) {})", "(function (a,@) {})", "(function (a @b) {})", "(function (@1) {})", "(function (@if) {})", "(function (a @= 1) {})")
}

// TestTargets: to what can be assigned.
func TestTargets(t *testing.T) {
	operators := strings.Fields("= += -= *= /= %=")
	for _, target := range []string{"a", "a . b", "a [ 1 ]", "a ( ) . b", "1 . a", "new a ( ) . b", "{ } . a"} {
		table := map[string]string{}
		for _, operator := range operators {
			text := "b = " + target + " " + operator + " 1 ;"
			table[text] = text
		}
		table["c, "+target+"++"] = "c , " + target + " ++ ;"
		table["--"+target] = "-- " + target + " ;"
		table["++\n("+target+")"] = "++ " + target + " ;"
		table["- "+target+" --"] = "- " + target + " -- ;"
		table["for ("+target+" in b) ;"] = "for ( " + target + " in b ) { ; }"
		if target[0] == '{' {
			delete(table, "--"+target)
			delete(table, "++\n("+target+")")
			table["b, ++"+target] = "b , ++ " + target + " ;"
		}
		wantTexts(t, table)
	}
	for _, other := range []string{"1", "'a'", "this", "null", "true", "[a]", "a()", "new a()", "(1)", "(a + b)", "(a, b)", "(a = b)", "(a ? b : c)", "(a++)", "(++a)", "(-a)", "(a || b)", "(a())", "a.b()", "(function () {})", "({})", "(new a)", "(new a.b)"} {
		for _, operator := range operators {
			wantWrong(t, other+" @"+operator+" 1", "c = "+other+"\n@"+operator+" 1", "("+other+" @"+operator+" 1)")
		}
		wantWrong(t, other+"@++", other+"@--", "b + "+other+" @++", "++"+other+"@", "--"+other+"@;", "("+"++"+other+"@)", "++"+other+" @+ 1", "++ "+other+"@++", "--"+other+"\n@a", "for ("+other+" @in b) ;")
	}
	wantWrong(t,
		"1 @= 2", "a + b @= 1", "a || b @= 1", "- a @= 1", "a ++ @= 1", "++ a @= 1", "a ? b : 1 @= 2", "a = 1 @= 2", "a = b + c @= 1", "! a @= b", "typeof a @+= b",
		"a ++ @++", "a ++ @--", "++ a ++@", "-- a ++@;", "++ a ++ @+ b", "++ a --\n@b", "++ a ++ @++", "++ a ++ @.b", "++ ++ a@", "++ -- a@;", "++ - a@", "-- ! a@;", "++ - a @+ b", "++ typeof a.b@", "++ - a ++@", "++ - -@", "++ -@)", "- a ++ @++", "++ (- a)@", "++ (a ++)@;", "++@", "++ @;", "++ @= 1", "++ a()@", "++ a.b() @+ 1",
		"var @1 = 2", "var @(a) = 1", "var a@.b = 1", "for (var a@.b in c) ;")
}

// TestIn: where in is an operator.
func TestIn(t *testing.T) {
	wantTexts(t, map[string]string{
		"a in b":                                              "a in b ;",
		"for (; a in b; a in b) ;":                            "for ( ; a in b ; a in b ) { ; }",
		"for ((a in b); ;) ;":                                 "for ( ( a in b ) ; ; ) { ; }",
		"for (a = (b in c); ;) ;":                             "for ( a = ( b in c ) ; ; ) { ; }",
		"for (a[b in c]; ;) ;":                                "for ( a [ b in c ] ; ; ) { ; }",
		"for (a(b in c, a in c); ;) ;":                        "for ( a ( b in c , a in c ) ; ; ) { ; }",
		"for (new a(b in c); ;) ;":                            "for ( new a ( b in c ) ; ; ) { ; }",
		"for ([a in b]; ;) ;":                                 "for ( [ a in b ] ; ; ) { ; }",
		"for (a = {b: c in a}; ;) ;":                          `for ( a = { "b" : c in a } ; ; ) { ; }`,
		"for (a ? b in c : a; ;) ;":                           "for ( a ? b in c : a ; ; ) { ; }",
		"for (a ? b ? c in a : b in c : a; ;) ;":              "for ( a ? b ? c in a : b in c : a ; ; ) { ; }",
		"for (var a = (b in c), d = [a in b]; ;) ;":           "for ( var a = ( b in c ) , d = [ a in b ] ; ; ) { ; }",
		"for (var a = function () { b in c; }; ;) ;":          "for ( var a = function ( ) { b in c ; } ; ; ) { ; }",
		"for (function () { for (a in b in c) d in e }; ;) ;": "for ( function ( ) { for ( a in b in c ) { d in e ; } } ; ; ) { ; }",
		"for (var a in b) c in a;":                            "for ( var a in b ) { c in a ; }",
		"for (var a in b in c) ;":                             "for ( var a in b in c ) { ; }",
		"for (a in b, c in a) ;":                              "for ( a in b , c in a ) { ; }",
		"for (a in b = c in a) ;":                             "for ( a in b = c in a ) { ; }",
		"for (a[b in c] in c in a) ;":                         "for ( a [ b in c ] in c in a ) { ; }",
		"for ((a in b).c in b) ;":                             "for ( ( a in b ) . c in b ) { ; }",
		"for ((a in b) ? c : b; ;) ;":                         "for ( ( a in b ) ? c : b ; ; ) { ; }",
		"for (a; b; c) for (a in b) c in a":                   "for ( a ; b ; c ) { for ( a in b ) { c in a ; } }",
		"for (var a; ;) ; b in c":                             "for ( var a ; ; ) { ; } b in c ;",
		"for (a, b; ;) ;":                                     "for ( a , b ; ; ) { ; }",
		"for (a = 1; ;) ;":                                    "for ( a = 1 ; ; ) { ; }",
		"for (a instanceof b; ;) ;":                           "for ( a instanceof b ; ; ) { ; }",
		"for (var a = 1, b; ;) ;":                             "for ( var a = 1 , b ; ; ) { ; }",
		"for (in_ in in_) ;":                                  "for ( in_ in in_ ) { ; }",
		"var a = b in c":                                      "var a = b in c ;",
		"(function () { return a in b })":                     "( function ( ) { return a in b ; } ) ;",
	})
	wantWrong(t,
		"for (a in b@; ;) ;", "for (var a in b@; ;) ;", "for (1 @in a) ;", "for (a + b @in c) ;", "for (a, b @in c) ;", "for (a = b @in c) ;", "for (a() @in b) ;",
		"for (var a = 1 @in b) ;", "for (var a, b @in c) ;", "for (var a = b @in c; ;) ;", "for (var a, b = c @in d; ;) ;", "for (- a @in b; ;) ;", "for (a ++ @in b) ;", "for (++ a @in b) ;", "for (a ? b : c @in a; ;) ;", "for (a ? b in c : c @in a; ;) ;",
		"for (a = (b in c) @in a; ;) ;", "for (a[b in c] + 1 @in a) ;", "for ((a in b) @in c) ;", "for ((a in b)@) ;", "for (a = function () { b in c } @in a; ;) ;", "for (var a = {} @in b) ;", "for (var a = b ? c in a : a, c = d @in e; ;) ;", "for (var @in a) ;", "for (@in a) ;", "for (a in @) ;", "for (var a in @) ;", "for (a in b@", "for (a || b @in c) ;", "for (a < b @in c) ;", "for (a == b @in c; ;) ;")
}

// TestHeads: what follows the words that begin statements.
func TestHeads(t *testing.T) {
	wantTexts(t, map[string]string{
		"for (;;) ;":                            "for ( ; ; ) { ; }",
		"for (a; b; c) ;":                       "for ( a ; b ; c ) { ; }",
		"for (a, b; a, b; a, b) ;":              "for ( a , b ; a , b ; a , b ) { ; }",
		"try {} catch (a) {}":                   "try { } catch ( a ) { }",
		"try {} finally {}":                     "try { } finally { }",
		"try {a} catch (b) {c} finally {1}":     "try { a ; } catch ( b ) { c ; } finally { 1 ; }",
		"try {} catch (a) {} try {} finally {}": "try { } catch ( a ) { } try { } finally { }",
		"switch (a) {}":                         "switch ( a ) { }",
		"switch (a) { default: }":               "switch ( a ) { default : }",
		"switch (a) { case 1: case 2: b; c; default: a; case 3: }": "switch ( a ) { case 1 : case 2 : b ; c ; default : a ; case 3 : }",
		"switch (a, b) { case a, b: }":                             "switch ( a , b ) { case a , b : }",
		"switch (a) { case b ? c : 1: 2 }":                         "switch ( a ) { case b ? c : 1 : 2 ; }",
		"switch (a) { case b: c: d }":                              "switch ( a ) { case b : c : d ; }",
		"switch (a) { default: switch (b) { default: } }":          "switch ( a ) { default : switch ( b ) { default : } }",
		"a: b: c: ;":                     "a : b : c : ;",
		"a: a: ;":                        "a : a : ;",
		"var eval, arguments, undefined": "var eval , arguments , undefined ;",
		"function f() { function g() {} return; }": "function f ( ) { function g ( ) { } return ; }",
		"(function () { function g() {} })":        "( function ( ) { function g ( ) { } } ) ;",
		"function f(a, a, eval) {}":                "function f ( a , a , eval ) { }",
		"return; break; continue a":                "return ; break ; continue a ;",
		"{ a: 1, b }":                              "{ a : 1 , b ; }",
		"{}":                                       "{ }",
		"{};":                                      "{ } ;",
		"{{}{}}{}":                                 "{ { } { } } { }",
		"while (a, b) ;":                           "while ( a , b ) { ; }",
	})
	wantWrong(t,
		"for@", "for @a", "for (@", "for (@)", "for (a@)", "for (;@", "for (;;@", "for (;;)@", "for (a;@)", "for (a; b@)", "for (a; b; c@;) ;", "for (;; @;) ;", "for (var@", "for (var @;;) ;", "for (var a = @;;) ;", "for (var a,@;;) ;", "for ({@", "for (var a; @var b;) ;", "for (a @b;;) ;", "for (a @of b) ;", "for (@let a;;) ;",
		"try@", "try @a", "try @;", "try {}@", "try {} @a", "try {}@; finally {}", "try {} @try {}", "try {} catch@", "try {} catch @{}", "try {} catch (@) {}", "try {} catch (@1) {}", "try {} catch (a@, b) {}", "try {} catch (a@.b) {}", "try {} catch (a)@", "try {} catch (a) @b", "try {} catch (a) @;", "try {} finally@", "try {} finally @a", "try {} finally {} @catch (a) {}", "try {} finally {} @finally {}", "try {} catch (a) {} @catch (b) {}", "try { @function f() {} } finally {}", "try {} catch (@if) {}", "try {} catch (a) {} finally @;", "@catch (a) {}", "@finally {}",
		"switch@", "switch @a", "switch (@)", "switch (a@", "switch (a)@", "switch (a) @;", "switch (a) {@", "switch (a) {@a}", "switch (a) {@;}", "switch (a) { case@", "switch (a) { case @: }", "switch (a) { case 1@; }", "switch (a) { case 1 @}", "switch (a) { default @1: }", "switch (a) { default@", "switch (a) { default@; }", "switch (a) { case 1: @function f() {} }", "switch (a) { default: @function f() {} }",
		"switch (a) { default: @default: }", "switch (a) { case 1: default: case 2: b; @default: c }", "switch (a) { default: switch (b) { default: } @default: }", "switch (a) { case 1: { @default: } }", "switch (a) { case 1: { @case 2: } }", "@case 1:", "@default: a",
		"if@", "if @a", "if (@) b", "if (a@", "if (a) @", "if (a@;) b", "while@", "while @a", "while (@) b", "while (a)@",
		"function@", "function @() {}", "function @if() {}", "function @1() {}", "function f@", "function f@{}", "function f(@", "function f(a@", "function f(a,@) {}", "function f()@", "function f() @a", "function f() @;", "function f() {@", "function f() {} @)", "function f() {}(@)", "function f() { a @b }", "function f@.g() {}",
		"(function f@)", "(function @1() {})", "(function () @;)", "(function () { a @b })", "(function @if() {})", "{ @function f() {} }", "{ a; @function f() {} }", "(function () { { @function f() {} } })",
		"{@", "{ a@", "{ a;@", "@}", "a; @}", "{ a } @}", "{ a: 1, b@: 2 }", "{ @, }", "{ 1@: 2 }", "{ 'a'@: 2 }", "a:@", "1@: b", "a.b@: c", "this@: a", "if @: a",
		"var@", "var @;", "var a,@", "var a, @;", "var a =@", "var a = @;", "var @if", "var a = @= 1", "var a @+= 1", "var a = 1,@", "var @var a", "var a@: b",
		"break a@, b", "break @if", "break @(", "continue @'a'", "return @)", "return a@)", "return @if", "throw a,@", "@)", "@]", "@:", "@,", "@.a", "@* a", "@= a", "@== a", "@? a : b", "@&& a", "@in a", "@instanceof a", "a ? b@", "a ? b@;", "a ? b@, c : d", "a ? @: b", "a ? b : @", "a ? b : @;", "a.@", "a.@1", "a.@'b'", "a.@(b)", "a.b.@;", "a[@", "a[b@", "a[b@)", "a +@", "a + @;", "a + @* b", "a = @", "a = @;", "a,@", "a, @;", "a @a", "-@", "- @;", "!@)", "typeof @", "void @;", "delete @", "a in @", "a in @;", "a && @|| b", "a || @")
}

// TestWords: a word is no name, and most begin nothing.
func TestWords(t *testing.T) {
	const words = "break case catch class const continue debugger default delete do else enum export extends false finally for function if implements import in instanceof interface let new null package private protected public return static super switch this throw true try typeof var void while with yield"
	begins := " delete false function new null this true typeof void "
	statements := begins + "break continue do for if return switch throw try var while "
	for _, word := range strings.Fields(words) {
		wantWrong(t, "var @"+word, "function @"+word+"() {}", "function f(@"+word+") {}", "break @"+word, "continue @"+word, "try {} catch (@"+word+") {}", "for (var @"+word+" in a) ;")
		if word != "in" && word != "instanceof" {
			wantWrong(t, "for (a @"+word+" b) ;")
		}
		if !strings.Contains(begins, " "+word+" ") {
			wantWrong(t, "a = @"+word, "(@"+word+")", "a(@"+word+")", "- @"+word)
		}
		if !strings.Contains(statements, " "+word+" ") {
			wantWrong(t, "@"+word, "a; @"+word, "a;\n@"+word+"\nb", "while (a) @"+word)
		}
		wantTexts(t, map[string]string{
			"a." + word:            "a . " + word + " ;",
			"a\n.\n" + word + "()": "a . " + word + " ( ) ;",
			"({" + word + ": 1})":  `( { "` + word + `" : 1 } ) ;`,
			"a." + word + " = 1":   "a . " + word + " = 1 ;",
		})
	}
}

// TestLiterals: a text is not taken for the sign or the word with the same bytes.
func TestLiterals(t *testing.T) {
	for _, s := range []string{";", "++", "in", "do", "if", "new", "{", "}}", "))", "((", "[[", "==", "||", "&&", "var", "else", "case", "this", "null", "return", "typeof", ""} {
		if len(s) == 1 {
			s += s
		}
		s += strings.Repeat(" ", len(s)%2)
		literal, _ := units.Quote(s)
		text := literal + " ;"
		wantTexts(t, map[string]string{
			literal:                                text,
			"a = " + literal:                       "a = " + text,
			"[" + literal + "]":                    "[ " + literal + " ] ;",
			"({" + literal + ": " + literal + "})": "( { " + literal + " : " + literal + " } ) ;",
			literal + "\n" + literal:               text + " " + text,
		})
		wantWrong(t, "a @"+literal, literal+" @a", "a @"+literal+" b", literal+" @"+literal, "a.@"+literal, "if @"+literal)
	}
}

// TestErrorsOfTokens: they come ahead of others, wherever they stand.
func TestErrorsOfTokens(t *testing.T) {
	for src, at := range map[string]int{"a & b": 2, "1 = 2 @": 6, "a b c 08": 6, "'a": 0, "a /* b": 2, ") 1.5": 2, "\x80": 0, "a\n#": 2, strings.Repeat("!", 100) + "a @": 102, strings.Repeat("n", 33): 0} {
		wantProgram(t, src, api.Node{}, at, api.ErrToken)
	}
	for _, s := range []string{" ", "a ", "a b ", "!", "(", "\x80"} {
		src := strings.Repeat(s, 4097)[:4097]
		wantProgram(t, src, api.Node{}, 0, api.ErrLong)
	}
	wantProgram(t, strings.Repeat(" ", 4096), program(), 0, api.OK)
	wantProgram(t, strings.Repeat(" ", 4095)+"a", program(say(name("a"))), 0, api.OK)
	wantProgram(t, strings.Repeat(";", 4096), program(slices.Repeat([]api.Node{node(api.SEmpty)}, 4096)...), 0, api.OK)
	wantProgram(t, strings.Repeat(" ", 4095)+")", api.Node{}, 4095, api.ErrSyntax)
	wantProgram(t, "{"+strings.Repeat(" ", 4095), api.Node{}, 4096, api.ErrSyntax)
}

// nest is a source in which left and right stand any number of times, and the depth of
// its tree: base, and by more for each time.
type nest struct {
	head, left, middle, right, tail string
	base, by                        int
}

func (x nest) src(times int) string {
	return x.head + strings.Repeat(x.left, times) + x.middle + strings.Repeat(x.right, times) + x.tail
}

var nests = []nest{
	{"", "!", "a", "", "", 3, 1}, {"", "typeof ", "a", "", "", 3, 1}, {"", "- ", "a", "", "", 3, 1}, {"", "", "a", "+a", "", 3, 1}, {"", "", "a", "||a", "", 3, 1}, {"", "a in ", "b", "", "", 3, 1},
	{"", "", "a", ".b", "", 3, 1}, {"", "", "a", "()", "", 3, 1}, {"", "", "a", "[1]", "", 3, 1}, {"", "", "a", ",b", "", 3, 1}, {"", "a=", "b", "", "", 3, 1}, {"", "new ", "a", "", "", 3, 1}, {"", "new ", "a", "()", "", 3, 1},
	{"", "a?b:", "c", "", "", 3, 1}, {"", "a?", "b", ":c", "", 3, 1}, {"", "a[", "b", "]", "", 3, 1}, {"", "a(", "b", ")", "", 3, 1}, {"", "[", "1", "]", "", 3, 1}, {"a=", "{a:", "1", "}", "", 4, 2},
	{"", "(", "a", ")", "", 3, 0}, {"++", "(", "a", ")", "", 4, 0}, {"(", "(", "a", ")", ")=1", 4, 0}, {"var a=", "!", "b", "", "", 4, 1}, {"return ", "!", "a", "", "", 3, 1}, {"throw ", "!", "a", "", "", 3, 1},
	{"", "{", ";", "}", "", 2, 1}, {"", "function f(){", ";", "}", "", 2, 1}, {"", "(function(){", ";", "})", "", 2, 2}, {"", "a:", ";", "", "", 2, 1},
	{"", "if(a)", ";", "", "", 2, 2}, {"", "if(a);else ", ";", "", "", 2, 2}, {"", "while(a)", ";", "", "", 2, 2}, {"", "for(;;)", ";", "", "", 2, 2}, {"", "for(a in b)", ";", "", "", 2, 2},
	{"", "while(a){", ";", "}", "", 2, 2}, {"", "do ", ";", "while(a);", "", 2, 2}, {"", "try{", ";", "}finally{}", "", 2, 2}, {"", "try{}catch(a){", ";", "}", "", 2, 2}, {"", "switch(a){case 1:", ";", "}", "", 2, 2},
	{"switch(", "!", "a", "", "){}", 3, 1}, {"switch(a){case ", "!", "a", "", ":}", 4, 1}, {"for(", "!", "a", "", ";;);", 3, 1}, {"for(var a=", "!", "a", "", ";;);", 5, 1}, {"for(a in ", "!", "a", "", ");", 3, 1},
	{"if(", "!", "a", "", "){}", 3, 1}, {"do ;while(", "!", "a", "", ")", 3, 1}, {"a.b(", "!", "a", "", ")", 4, 1}, {"new a(", "!", "a", "", ")", 4, 1},
}

// TestDepth: a tree may be so deep, but a source's brackets do not count.
func TestDepth(t *testing.T) {
	for _, x := range nests {
		most := (4096 - len(x.src(0))) / len(x.left+x.right)
		for times := range most + 1 {
			if times > 70 && times < most-2 {
				continue
			}
			src := x.src(times)
			n, at, e := parse.Program(src)
			depth := x.base + times*x.by
			switch {
			case times == 0 && x.by > 0:
			case at != 0:
				t.Errorf("%.100q: %d times: got %d, %d", src, times, at, e)
			case depth > 64:
				if e != api.ErrDeep || !tree.Same(n, api.Node{}) {
					t.Errorf("%.100q: %d times: got %d", src, times, e)
				}
			default:
				if e != api.OK || tree.Deep(n) != depth {
					t.Errorf("%.100q: %d times: got %d, depth %d, want %d", src, times, e, tree.Deep(n), depth)
				}
			}
			// No tree is too deep if there is none.
			if wrong := src + " )"; len(wrong) <= 4096 {
				wantProgram(t, wrong, api.Node{}, len(wrong)-1, api.ErrSyntax)
			}
		}
	}
}

// TestUnfinished: sources that end within as many brackets and operators as fit in.
func TestUnfinished(t *testing.T) {
	for _, x := range nests {
		if x.left == "" {
			continue
		}
		src := x.head + strings.Repeat(x.left, (4096-len(x.head))/len(x.left))
		if n, at, e := parse.Program(src); at != len(src) || e != api.ErrSyntax || !tree.Same(n, api.Node{}) {
			t.Errorf("%.100q: got %d, %d, want %d", src, at, e, len(src))
		}
	}
	for _, s := range []string{"if(", "for(", "for(var a=function(){", "while(function(){", "({a:[", "a[b(", "switch(function(){", "throw(", "new(", "++(", "try{if(a){", "do{", "a?(", "[{a:"} {
		src := strings.Repeat(s, 4096/len(s))
		n, at, e := parse.Program(src)
		if e == api.ErrSyntax && tree.Same(n, api.Node{}) {
			wantRead(t, strings.Repeat(s, 40))
		} else {
			t.Errorf("%.100q: got %d, %d", src, at, e)
		}
	}
}

// R2

// span is a piece of memory.
type span struct{ from, to uintptr }

func (x span) meets(y span) bool {
	return x.from < y.to && y.from < x.to
}

func textSpan(s string) span {
	from := uintptr(unsafe.Pointer(unsafe.StringData(s)))
	return span{from, from + uintptr(len(s))}
}

func listSpan[T any](l []T) span {
	var one T
	from := uintptr(unsafe.Pointer(unsafe.SliceData(l)))
	return span{from, from + uintptr(cap(l))*unsafe.Sizeof(one)}
}

// spans gives f the memory of a tree's lists, also where they are not used yet, and
// that of its texts.
func spans(n api.Node, list, text func(span)) {
	list(listSpan(n.L))
	list(listSpan(n.Names))
	text(textSpan(n.Name))
	text(textSpan(n.Text))
	for _, s := range n.Names {
		text(textSpan(s))
	}
	for _, x := range n.L {
		spans(x, list, text)
	}
}

func TestMemory(t *testing.T) {
	r := rand.New(rand.NewPCG(8, 5))
	for range 300 {
		src := random(r)
		n, _, _ := parse.Program(src)
		m, _, _ := parse.Program(src)
		var lists []span
		for _, x := range []api.Node{n, m} {
			spans(x, func(x span) { lists = append(lists, x) }, func(x span) {
				if x.meets(textSpan(src)) {
					t.Fatalf("%q: a text of the tree is one of the source's", src)
				}
			})
		}
		slices.SortFunc(lists, func(x, y span) int { return cmp.Or(cmp.Compare(x.from, y.from), cmp.Compare(x.to, y.to)) })
		for i := range lists[1:] {
			if lists[i].meets(lists[i+1]) {
				t.Fatalf("%q: two lists share memory", src)
			}
		}
		spoil(n)
		if k, _, _ := parse.Program(src); !tree.Same(k, m) {
			t.Fatalf("%q: a tree changes with another", src)
		}
	}
}

func spoil(n api.Node) {
	for i := range n.Names {
		n.Names[i] = "spoiled"
	}
	for i := range n.L {
		spoil(n.L[i])
		n.L[i] = api.Node{Kind: -1}
	}
}

// TestAgain: the same source has the same tree, whatever was read ahead of it.
func TestAgain(t *testing.T) {
	sources := []string{"a in b", "for (a in b) ;", "for (a = b in c; ;) ;", "(", "for (", "a = b", "1 = 2", "a & b", "switch (a) { default: b", "switch (a) { default: b }"}
	for _, first := range sources {
		for _, src := range sources {
			n, at, e := parse.Program(src)
			parse.Program(first)
			wantProgram(t, src, n, at, e)
		}
	}
}
