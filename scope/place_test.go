package scope_test

import (
	"regexp"
	"strings"
	"testing"

	"credenza/api"
	"credenza/parse"
)

// paths are statements in which another one stands, each with a sign for what tells: a
// loop, a switch, a label, a function.
var paths = []struct{ sign, src string }{
	{"L", "while (x) @"}, {"L", "do @ while (x)"}, {"L", "for ( ; ; ) @"}, {"L", "for (var v = 1; ; ) @"}, {"L", "for (k in x) @"}, {"L", "for (var k in x) @"},
	{"S", "switch (x) { case 1: @ }"}, {"S", "switch (x) { case 1: default: ; @ ; case 2: }"},
	{"A", "a: @"}, {"B", "b: @"},
	{"o", "{ @ }"}, {"o", "{ ; @ ; }"}, {"o", "if (x) @"}, {"o", "if (x) ; else @"}, {"o", "try { @ } finally { }"}, {"o", "try { } catch (e) { @ }"}, {"o", "try { } finally { @ }"},
	{"F", "(function () { @ });"}, {"F", "x = {p: [function a() { ; @ }]};"}, {"F", "function b() { @ }"},
	{"F", "while (function () { @ }) ;"}, {"AF", "a: for (x[function () { @ }] in x) ;"}, {"AF", "a: for (var v = function () { @ }; ; ) ;"}, {"F", "switch (x) { case function () { @ }: }"},
}

// ends tells for each statement along which paths it is no early error.
var ends = map[string]*regexp.Regexp{
	"break;":      regexp.MustCompile(`[LS][^F]*$`),
	"continue;":   regexp.MustCompile(`L[^F]*$`),
	"break a;":    regexp.MustCompile(`A[^F]*$`),
	"break b;":    regexp.MustCompile(`B[^F]*$`),
	"continue a;": regexp.MustCompile(`A[AB]*L[^F]*$`),
	"continue b;": regexp.MustCompile(`B[AB]*L[^F]*$`),
	"return;":     regexp.MustCompile(`F`),
	"return x;":   regexp.MustCompile(`F`),
	"a: ;":        regexp.MustCompile(`^([^A]*F)?[^AF]*$|F[^AF]*$`),
	";":           regexp.MustCompile(``),
}

var labelTwice = regexp.MustCompile(`A[^F]*A|B[^F]*B`)

// TestPaths: each of the ends along all paths of up to three steps, and all longer ones
// of a few of them.
func TestPaths(t *testing.T) {
	count := map[api.Errno]int{}
	var walk func(src, signs string, left int, few bool)
	walk = func(src, signs string, left int, few bool) {
		for end, fine := range ends {
			n, _, e := parse.Program(strings.Replace(src, "@", end, 1))
			if e != api.OK {
				continue // a function's declaration within another statement
			}
			want := api.OK
			if labelTwice.MatchString(signs) || !fine.MatchString(signs) {
				want = api.ErrEarly
			}
			wantCheck(t, n, want)
			count[want]++
		}
		for i, p := range paths {
			if left > 0 && (!few || i%5 == 0 || p.sign == "A" || p.sign == "B") {
				walk(strings.Replace(src, "@", p.src, 1), signs+p.sign, left-1, few)
			}
		}
	}
	walk("@", "", 3, false)
	walk("@", "", 5, true)
	if count[api.OK] < 50000 || count[api.ErrEarly] < 50000 {
		t.Errorf("the sources are too much alike: %v", count)
	}
}

// spots are places of expressions, and of statements that consist of one.
const spots = `@;
[@];
[x, @, x];
({p: @});
({p: x, q: @});
(@).p;
(@)[x];
x[@];
(@)();
x(@);
x(x, @);
new (@);
new x(@);
-(@);
typeof (@);
delete (@).p;
void (@);
x[@]++;
--(@).p;
(@) + x;
x + (@);
(@) in x;
x instanceof (@);
(@) && x;
x || (@);
(@) ? x : x;
x ? (@) : x;
x ? x : (@);
x = (@);
x += (@);
(@).p = x;
x[@] = x;
((@), x);
(x, (@));
x; @; x;
var v = (@);
var u, v = (@), w;
{ @ }
{ x; @; x }
if (@) ;
if (x) @; else ;
if (x) ; else @;
while (@) ;
while (x) @;
do ; while (@);
do @; while (x);
for ((@); ; ) ;
for (var v = (@); ; ) ;
for ( ; @; ) ;
for ( ; ; @) ;
for ( ; ; ) @;
for ((@).p in x) ;
for (x[@] in x) ;
for (x in (@)) ;
for (var v in (@)) ;
for (x in x) @;
throw (@);
try { @ } finally { }
try { } catch (e) { @ }
try { } finally { @ }
try { } catch (e) { } finally { @ }
switch (@) { }
switch (x) { case (@): }
switch (x) { case x: @ }
switch (x) { default: @ }
switch (x) { case x: x; default: x; @; x }
a: @;
(function () { @ });
(function f(a) { return (@); });
x = {p: function () { return [function () { @ }]; }};
function f() { @ }
function f() { x; @; x }
function f() { return (@); }
function f() { } @; function g() { }
function f() { function g() { } function h() { @ } }`

// TestEverywhere: what is an early error is one in every place, and what is none is none.
func TestEverywhere(t *testing.T) {
	early := []string{
		"eval = x", "arguments++", "delete x", "({p: x, p: x})", "(function (a, a) { })", "(function eval() { })", "(function () { return function (arguments) { }; })",
		"(function () { break })", "(function () { continue })", "(function () { a: a: ; })", "(function () { a: { continue a } })", "(function () { var eval })",
		"(function () { a: while (x) { return function () { break a } } })", "(function () { try { } catch (arguments) { } })", "(function () { for (eval in x) ; })",
		"(function () { function f(a, a) { } })", "(function () { function eval() { } })",
	}
	fine := []string{
		"eval", "arguments.p++", "delete x.p", "({p: x, q: x})", "(function (a, b) { return })", "(function f() { })", "(function () { a: while (x) { break a } })",
	}
	all := strings.Split(spots, "\n")
	for _, outer := range all {
		for _, inner := range all {
			src := strings.Replace(outer, "@", "(function () { "+inner+" })", 1)
			if is := strings.TrimSuffix(inner, ";"); isExpression(is) {
				src = strings.Replace(outer, "@", "("+is+")", 1)
			}
			for _, s := range early {
				wantCheck(t, parsed(t, strings.Replace(src, "@", s, 1)), api.ErrEarly)
			}
			for _, s := range fine {
				wantCheck(t, parsed(t, strings.Replace(src, "@", s, 1)), api.OK)
			}
		}
	}
}

func isExpression(spot string) bool {
	_, _, e := parse.Program("(" + strings.Replace(spot, "@", "x", 1) + ");")
	return e == api.OK
}
