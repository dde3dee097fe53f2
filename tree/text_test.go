package tree_test

import (
	"fmt"
	"math/rand/v2"
	"slices"
	"strconv"
	"strings"
	"testing"
	"unsafe"

	"credenza/api"
	"credenza/token"
	"credenza/tree"
)

// levels are those of operators of two operands, as the chapter lists them.
var levels = map[string]int{
	"||": 3, "&&": 4, "==": 5, "!=": 5, "===": 5, "!==": 5, "<": 6, ">": 6, "<=": 6, ">=": 6, "in": 6, "instanceof": 6,
	"+": 7, "-": 7, "*": 8, "/": 8, "%": 8,
}

// levelOf is the level of an expression, as the chapter has it.
func levelOf(n api.Node) int {
	fixed := map[int]int{api.EComma: 0, api.EAssign: 1, api.ECond: 2, api.EUnary: 9, api.EUpdate: 10 - int(n.Num), api.ECall: 11, api.ENew: 12}
	if n.Kind == api.EBinary || n.Kind == api.ELogic {
		return levels[n.Name]
	}
	if n.Kind == api.EMember || n.Kind == api.EIndex {
		if l := levelOf(n.L[0]); l == 12 || l == 13 {
			return 12
		}
		return 11
	}
	if l, ok := fixed[n.Kind]; ok {
		return l
	}
	return 13
}

// join makes one list of tokens of single ones and lists.
func join(parts ...any) []string {
	var l []string
	for _, part := range parts {
		switch x := part.(type) {
		case string:
			l = append(l, x)
		case []string:
			l = append(l, x...)
		}
	}
	return l
}

// list are the tokens of expressions, separated by commas.
func list(l []api.Node) []string {
	var tokens []string
	for i, n := range l {
		if i > 0 {
			tokens = append(tokens, ",")
		}
		tokens = append(tokens, at(n, 1, true)...)
	}
	return tokens
}

// literal is units.Quote by other means.
func literal(u string) string {
	s := `"`
	for i := 0; i < len(u); i += 2 {
		x := rune(u[i])<<8 | rune(u[i+1])
		switch at := strings.IndexRune("\b\t\n\f\r\"\\", x); {
		case at >= 0:
			s += `\` + `btnfr"\`[at:at+1]
		case x < 32 || x > 126:
			s += fmt.Sprintf(`\u%04x`, x)
		default:
			s += string(x)
		}
	}
	return s + `"`
}

// at are the tokens of an expression at a level; in tells whether in is permitted.
func at(n api.Node, level int, in bool) []string {
	if levelOf(n) < level || n.Kind == api.EBinary && n.Name == "in" && !in {
		return join("(", at(n, 0, true), ")")
	}
	own := levelOf(n)
	switch l := n.L; n.Kind {
	case api.ENum:
		return join(strconv.Itoa(int(n.Num)))
	case api.EStr:
		return join(literal(n.Text))
	case api.EName:
		return join(n.Name)
	case api.EThis:
		return join("this")
	case api.ENull:
		return join("null")
	case api.EBool:
		return join([]string{"false", "true"}[n.Num : n.Num+1])
	case api.EArray:
		return join("[", list(l), "]")
	case api.EObject:
		var tokens []string
		for _, p := range l {
			tokens = join(tokens, ",", literal(p.Text), ":", at(p.L[0], 1, true))
		}
		return join("{", tokens[min(1, len(tokens)):], "}")
	case api.EFunc:
		return functionTokens(n)
	case api.EMember:
		return join(at(l[0], 11, in), ".", n.Name)
	case api.EIndex:
		return join(at(l[0], 11, in), "[", at(l[1], 0, true), "]")
	case api.ECall:
		return join(at(l[0], 11, in), "(", list(l[1:]), ")")
	case api.ENew:
		return join("new", at(l[0], 12, in), "(", list(l[1:]), ")")
	case api.EUnary:
		return join(n.Name, at(l[0], 9, in))
	case api.EUpdate:
		if n.Num == 1 {
			return join(n.Name, at(l[0], 11, in))
		}
		return join(at(l[0], 11, in), n.Name)
	case api.EBinary, api.ELogic:
		return join(at(l[0], own, in), n.Name, at(l[1], own+1, in))
	case api.ECond:
		return join(at(l[0], 3, in), "?", at(l[1], 1, true), ":", at(l[2], 1, in))
	case api.EAssign:
		return join(at(l[0], 11, in), n.Name, at(l[1], 1, in))
	case api.EComma:
		return join(at(l[0], 0, in), ",", at(l[1], 1, in))
	}
	panic(fmt.Sprint("no expression: ", n.Kind))
}

func functionTokens(n api.Node) []string {
	return join("function", strings.Fields(n.Name), "(", strings.Fields(strings.Join(n.Names, " , ")), ")", "{", all(n.L), "}")
}

// all are the tokens of statements.
func all(l []api.Node) []string {
	var tokens []string
	for _, n := range l {
		tokens = append(tokens, tokensOf(n)...)
	}
	return tokens
}

func varTokens(n api.Node, in bool) []string {
	var tokens []string
	for _, d := range n.L {
		tokens = join(tokens, ",", d.Name)
		if len(d.L) == 1 {
			tokens = join(tokens, "=", at(d.L[0], 1, in))
		}
	}
	tokens[0] = "var"
	return tokens
}

func partTokens(n api.Node, in bool) []string {
	switch n.Kind {
	case api.Empty:
		return nil
	case api.SVar:
		return varTokens(n, in)
	}
	return at(n, 0, in)
}

// tokensOf are the tokens of a statement.
func tokensOf(n api.Node) []string {
	switch l := n.L; n.Kind {
	case api.SVar:
		return join(varTokens(n, true), ";")
	case api.SExpr:
		tokens := at(l[0], 0, true)
		if tokens[0] == "{" || tokens[0] == "function" {
			return join("(", tokens, ")", ";")
		}
		return join(tokens, ";")
	case api.SBlock:
		return join("{", all(l), "}")
	case api.SIf:
		if len(l) == 3 {
			return join("if", "(", at(l[0], 0, true), ")", tokensOf(l[1]), "else", tokensOf(l[2]))
		}
		return join("if", "(", at(l[0], 0, true), ")", tokensOf(l[1]))
	case api.SWhile:
		return join("while", "(", at(l[0], 0, true), ")", tokensOf(l[1]))
	case api.SDo:
		return join("do", tokensOf(l[0]), "while", "(", at(l[1], 0, true), ")", ";")
	case api.SFor:
		return join("for", "(", partTokens(l[0], false), ";", partTokens(l[1], true), ";", partTokens(l[2], true), ")", tokensOf(l[3]))
	case api.SForIn:
		if l[0].Kind == api.SVar {
			return join("for", "(", "var", l[0].L[0].Name, "in", at(l[1], 0, true), ")", tokensOf(l[2]))
		}
		return join("for", "(", at(l[0], 11, false), "in", at(l[1], 0, true), ")", tokensOf(l[2]))
	case api.SBreak:
		return join("break", strings.Fields(n.Name), ";")
	case api.SContinue:
		return join("continue", strings.Fields(n.Name), ";")
	case api.SReturn:
		if len(l) == 0 {
			return join("return", ";")
		}
		return join("return", at(l[0], 0, true), ";")
	case api.SThrow:
		return join("throw", at(l[0], 0, true), ";")
	case api.STry:
		tokens := join("try", tokensOf(l[0]))
		if l[1].Kind == api.SBlock {
			tokens = join(tokens, "catch", "(", n.Name, ")", tokensOf(l[1]))
		}
		if l[2].Kind == api.SBlock {
			tokens = join(tokens, "finally", tokensOf(l[2]))
		}
		return tokens
	case api.SSwitch:
		return join("switch", "(", at(l[0], 0, true), ")", "{", all(l[1:]), "}")
	case api.SCase:
		if l[0].Kind == api.Empty {
			return join("default", ":", all(l[1:]))
		}
		return join("case", at(l[0], 0, true), ":", all(l[1:]))
	case api.SLabel:
		return join(n.Name, ":", tokensOf(l[0]))
	case api.SFunc:
		return functionTokens(n)
	case api.SEmpty:
		return join(";")
	}
	panic(fmt.Sprint("no statement: ", n.Kind))
}

// wantedText is what Text is to return.
func wantedText(n api.Node) (string, api.Errno) {
	if e := wantedCheck(n); e != api.OK {
		return "", e
	}
	s := strings.Join(all(n.L), " ")
	if len(s) > 4096 {
		return "", api.ErrLong
	}
	return s, api.OK
}

// wantText holds Text against wantedText, and what it returned, read again,
// against n.
func wantText(t *testing.T, n api.Node) (string, api.Errno) {
	t.Helper()
	got, e := tree.Text(n)
	if want, wantE := wantedText(n); got != want || e != wantE {
		t.Fatalf("Text(%v): got %q, %d, want %q, %d", n, got, e, want, wantE)
	}
	if e == api.OK {
		wantRead(t, got, n)
	}
	return got, e
}

// P7.2

func TestTextOfExpressions(t *testing.T) {
	a, b, c := name("a"), name("b"), name("c")
	bin := func(op string, x, y api.Node) api.Node { return named(api.EBinary, op, x, y) }
	logic := func(op string, x, y api.Node) api.Node { return named(api.ELogic, op, x, y) }
	call := func(l ...api.Node) api.Node { return node(api.ECall, l...) }
	made := func(l ...api.Node) api.Node { return node(api.ENew, l...) }
	assign := func(op string, x, y api.Node) api.Node { return named(api.EAssign, op, x, y) }
	unary := func(op string, x api.Node) api.Node { return named(api.EUnary, op, x) }
	for _, x := range []struct {
		n    api.Node
		want string
	}{
		{bin("*", bin("+", num(1), num(2)), a), "( 1 + 2 ) * a"},
		{made(call(name("f"))), "new ( f ( ) ) ( )"},
		{num(0), "0"}, {num(31), "31"}, {num(api.MaxSafe), "9007199254740991"},
		{str(""), `""`}, {str("{"), `"{"`}, {str("function"), `"function"`}, {str("\"\\\n\x00é\uffff'"), `"\"\\\n\u0000\u00e9\uffff'"`},
		{a, "a"}, {name("$_9"), "$_9"}, {node(api.EThis), "this"}, {null, "null"}, {boolean(0), "false"}, {boolean(1), "true"},
		{node(api.EArray), "[ ]"}, {node(api.EArray, a), "[ a ]"}, {node(api.EArray, a, node(api.EArray), node(api.EComma, b, c)), "[ a , [ ] , ( b , c ) ]"},
		{node(api.EObject), "( { } )"}, {node(api.EObject, prop("é", num(1)), prop("", node(api.EObject))), `( { "\u00e9" : 1 , "" : { } } )`},
		{node(api.EObject, prop("in", node(api.EComma, a, b))), `( { "in" : ( a , b ) } )`},
		{function(api.EFunc, "", ""), "( function ( ) { } )"}, {function(api.EFunc, "f", "ab", node(api.SEmpty)), "( function f ( a , b ) { ; } )"},
		{assign("=", a, function(api.EFunc, "f", "x", sample(api.SFunc))), "a = function f ( x ) { function f ( a ) { x ; } }"},
		{call(function(api.EFunc, "", "")), "( function ( ) { } ( ) )"}, {member(node(api.EObject), "a"), "( { } . a )"},
		{node(api.EComma, node(api.EObject), a), "( { } , a )"}, {node(api.EComma, a, node(api.EObject)), "a , { }"}, {bin("+", function(api.EFunc, "", ""), num(1)), "( function ( ) { } + 1 )"},
		{made(function(api.EFunc, "", "")), "new function ( ) { } ( )"}, {unary("!", node(api.EObject)), "! { }"}, {member(bin("+", node(api.EObject), num(1)), "a"), "( { } + 1 ) . a"},
		{update("++", 0, member(node(api.EObject), "a")), "( { } . a ++ )"}, {assign("=", member(function(api.EFunc, "", ""), "a"), num(1)), "( function ( ) { } . a = 1 )"},
		{member(a, "b"), "a . b"}, {member(member(a, "in"), "function"), "a . in . function"}, {member(num(1), "a"), "1 . a"}, {member(unary("-", a), "b"), "( - a ) . b"},
		{member(made(a), "b"), "new a ( ) . b"}, {made(member(a, "b")), "new a . b ( )"}, {member(call(a), "b"), "a ( ) . b"}, {made(member(call(a), "b")), "new ( a ( ) . b ) ( )"},
		{made(node(api.EIndex, a, call(b))), "new a [ b ( ) ] ( )"}, {made(made(a)), "new new a ( ) ( )"}, {call(made(a)), "new a ( ) ( )"}, {made(call(made(a))), "new ( new a ( ) ( ) ) ( )"},
		{made(member(made(a, b), "c"), a), "new new a ( b ) . c ( a )"}, {made(member(bin("+", a, b), "c")), "new ( ( a + b ) . c ) ( )"}, {made(bin("+", a, b)), "new ( a + b ) ( )"},
		{made(member(node(api.EIndex, call(a), b), "c")), "new ( a ( ) [ b ] . c ) ( )"}, {made(node(api.EArray)), "new [ ] ( )"},
		{node(api.EIndex, a, node(api.EComma, a, b)), "a [ a , b ]"}, {node(api.EIndex, assign("=", a, b), c), "( a = b ) [ c ]"},
		{call(a, node(api.EComma, a, b), assign("=", a, b)), "a ( ( a , b ) , a = b )"}, {call(call(a, b), c), "a ( b ) ( c )"}, {call(bin("-", a, b)), "( a - b ) ( )"},
		{unary("-", unary("-", a)), "- - a"}, {unary("typeof", unary("void", num(0))), "typeof void 0"}, {unary("delete", member(a, "b")), "delete a . b"}, {unary("!", bin("in", a, b)), "! ( a in b )"},
		{unary("+", update("++", 1, a)), "+ ++ a"}, {unary("-", update("--", 0, a)), "- a --"}, {bin("-", a, unary("-", b)), "a - - b"}, {bin("+", unary("+", a), b), "+ a + b"},
		{update("++", 1, member(call(a), "b")), "++ a ( ) . b"}, {update("--", 0, node(api.EIndex, a, b)), "a [ b ] --"}, {member(update("++", 0, a), "b"), "( a ++ ) . b"},
		{bin("-", a, bin("-", b, c)), "a - ( b - c )"}, {bin("-", bin("-", a, b), c), "a - b - c"}, {bin("<", a, bin("in", b, c)), "a < ( b in c )"}, {bin("%", bin("/", a, b), bin("*", b, c)), "a / b % ( b * c )"},
		{bin("==", bin("===", a, b), bin("<", b, c)), "a === b == b < c"}, {bin("<", bin("!=", a, b), c), "( a != b ) < c"},
		{logic("||", logic("&&", a, b), logic("||", b, c)), "a && b || ( b || c )"}, {logic("&&", logic("||", a, b), c), "( a || b ) && c"}, {logic("&&", a, logic("&&", b, c)), "a && ( b && c )"},
		{logic("||", a, bin("==", b, c)), "a || b == c"}, {bin("==", a, logic("&&", b, c)), "a == ( b && c )"},
		{node(api.ECond, node(api.ECond, a, b, c), assign("=", a, b), assign("=", b, c)), "( a ? b : c ) ? a = b : b = c"}, {node(api.ECond, a, b, node(api.ECond, a, b, c)), "a ? b : a ? b : c"},
		{node(api.ECond, logic("||", a, b), node(api.EComma, a, b), node(api.EComma, b, c)), "a || b ? ( a , b ) : ( b , c )"}, {node(api.ECond, assign("=", a, b), b, c), "( a = b ) ? b : c"},
		{assign("=", a, assign("+=", b, c)), "a = b += c"}, {assign("%=", node(api.EIndex, a, b), node(api.EComma, a, b)), "a [ b ] %= ( a , b )"}, {assign("=", a, node(api.ECond, a, b, c)), "a = a ? b : c"},
		{bin("+", assign("=", a, b), c), "( a = b ) + c"}, {assign("-=", member(assign("=", a, b), "c"), num(1)), "( a = b ) . c -= 1"},
		{node(api.EComma, node(api.EComma, a, b), c), "a , b , c"}, {node(api.EComma, a, node(api.EComma, b, c)), "a , ( b , c )"}, {node(api.EComma, assign("=", a, b), c), "a = b , c"},
	} {
		if got, e := tree.Text(say(x.n)); got != x.want+" ;" || e != api.OK {
			t.Errorf("got %q, %d, want %q", got, e, x.want+" ;")
		}
		wantText(t, say(x.n))
	}
}

func TestTextOfStatements(t *testing.T) {
	a, b, in := name("a"), name("b"), named(api.EBinary, "in", name("x"), name("y"))
	full := node(api.SBlock, node(api.SExpr, name("c")))
	v, w := named(api.SDecl, "v"), named(api.SDecl, "w", node(api.EComma, a, b))
	for _, x := range []struct {
		n    api.Node
		want string
	}{
		{node(api.SEmpty), ";"}, {block, "{ }"}, {node(api.SBlock, block, node(api.SEmpty)), "{ { } ; }"},
		{node(api.SVar, v), "var v ;"}, {node(api.SVar, v, w, v), "var v , w = ( a , b ) , v ;"}, {node(api.SVar, named(api.SDecl, "v", in)), "var v = x in y ;"},
		{node(api.SExpr, str("{")), `"{" ;`}, {node(api.SExpr, str("function")), `"function" ;`}, {node(api.SExpr, name("functions")), "functions ;"}, {node(api.SExpr, in), "x in y ;"},
		{node(api.SIf, a, full), "if ( a ) { c ; }"}, {node(api.SIf, node(api.EComma, a, b), block, full), "if ( a , b ) { } else { c ; }"}, {node(api.SIf, node(api.EObject), block, block), "if ( { } ) { } else { }"},
		{node(api.SWhile, in, full), "while ( x in y ) { c ; }"}, {node(api.SDo, full, node(api.EComma, a, b)), "do { c ; } while ( a , b ) ;"},
		{node(api.SFor, empty, empty, empty, block), "for ( ; ; ) { }"}, {node(api.SFor, a, b, a, full), "for ( a ; b ; a ) { c ; }"},
		{node(api.SFor, node(api.SVar, v, w), empty, node(api.EComma, a, b), block), "for ( var v , w = ( a , b ) ; ; a , b ) { }"}, {node(api.SFor, node(api.EComma, a, b), in, in, block), "for ( a , b ; x in y ; x in y ) { }"},
		{node(api.SFor, in, empty, empty, block), "for ( ( x in y ) ; ; ) { }"}, {node(api.SFor, node(api.SVar, named(api.SDecl, "v", in)), empty, empty, block), "for ( var v = ( x in y ) ; ; ) { }"},
		{node(api.SFor, node(api.EObject), node(api.EObject), function(api.EFunc, "", ""), block), "for ( { } ; { } ; function ( ) { } ) { }"},
		{node(api.SForIn, a, b, full), "for ( a in b ) { c ; }"}, {node(api.SForIn, node(api.SVar, v), node(api.EComma, a, b), block), "for ( var v in a , b ) { }"}, {node(api.SForIn, a, in, block), "for ( a in x in y ) { }"},
		{node(api.SForIn, member(in, "z"), b, block), "for ( ( x in y ) . z in b ) { }"}, {node(api.SForIn, node(api.EIndex, a, in), b, block), "for ( a [ x in y ] in b ) { }"},
		{node(api.SForIn, member(node(api.ECall, a, in), "in"), b, block), "for ( a ( x in y ) . in in b ) { }"}, {node(api.SForIn, member(node(api.EObject), "a"), b, block), "for ( { } . a in b ) { }"},
		{node(api.SBreak), "break ;"}, {named(api.SBreak, "l"), "break l ;"}, {node(api.SContinue), "continue ;"}, {named(api.SContinue, "l"), "continue l ;"},
		{node(api.SReturn), "return ;"}, {node(api.SReturn, node(api.EComma, a, b)), "return a , b ;"}, {node(api.SReturn, node(api.EObject)), "return { } ;"}, {node(api.SThrow, node(api.EComma, in, a)), "throw x in y , a ;"},
		{named(api.STry, "e", full, block, empty), "try { c ; } catch ( e ) { }"}, {node(api.STry, block, empty, full), "try { } finally { c ; }"}, {named(api.STry, "e", block, full, block), "try { } catch ( e ) { c ; } finally { }"},
		{node(api.SSwitch, in), "switch ( x in y ) { }"}, {node(api.SSwitch, a, node(api.SCase, empty)), "switch ( a ) { default : }"},
		{node(api.SSwitch, a, node(api.SCase, node(api.EComma, a, b), full, node(api.SBreak)), node(api.SCase, empty, node(api.SEmpty)), node(api.SCase, in)), "switch ( a ) { case a , b : { c ; } break ; default : ; case x in y : }"},
		{node(api.SSwitch, a, node(api.SCase, node(api.ECond, a, b, a), full)), "switch ( a ) { case a ? b : a : { c ; } }"},
		{named(api.SLabel, "l", node(api.SEmpty)), "l : ;"}, {named(api.SLabel, "l", named(api.SLabel, "m", node(api.SWhile, a, full))), "l : m : while ( a ) { c ; }"}, {named(api.SLabel, "l", block), "l : { }"},
		{named(api.SLabel, "l", node(api.SExpr, node(api.EObject))), "l : ( { } ) ;"},
		{function(api.SFunc, "f", ""), "function f ( ) { }"}, {function(api.SFunc, "f", "xyz", function(api.SFunc, "g", "", node(api.SReturn)), full), "function f ( x , y , z ) { function g ( ) { return ; } { c ; } }"},
	} {
		if got, e := tree.Text(program(x.n)); got != x.want || e != api.OK {
			t.Errorf("got %q, %d, want %q", got, e, x.want)
		}
		if got, e := tree.Text(program(x.n, node(api.SEmpty), x.n)); got != x.want+" ; "+x.want || e != api.OK {
			t.Errorf("got %q, %d, want %q twice", got, e, x.want)
		}
		wantText(t, program(x.n))
	}
	if got, e := tree.Text(program()); got != "" || e != api.OK {
		t.Errorf("no statements: got %q, %d", got, e)
	}
}

// inner are expressions of all Kinds, with all operators.
func inner() []api.Node {
	a, b := name("a"), name("b")
	l := []api.Node{num(7), str("s"), a, node(api.EThis), null, boolean(0), boolean(1), node(api.EArray, a), node(api.EObject, prop("p", a)), function(api.EFunc, "", "x"), function(api.EFunc, "g", "", node(api.SReturn, a)),
		member(a, "b"), node(api.EIndex, a, b), node(api.ECall, a, b), node(api.ENew, a, b), member(node(api.ECall, a), "b"), node(api.EIndex, node(api.ECall, a), b), member(node(api.ENew, a), "b"), member(null, "null"),
		node(api.ECond, a, b, a), node(api.EComma, a, b), update("++", 0, a), update("++", 1, a), update("--", 0, member(a, "b")), update("--", 1, node(api.EIndex, a, b))}
	for _, op := range strings.Fields(forms[api.EUnary].name) {
		l = append(l, named(api.EUnary, op, a))
	}
	for op := range levels {
		l = append(l, named(binaryKind(op), op, a, b))
	}
	for _, op := range strings.Fields(forms[api.EAssign].name) {
		l = append(l, named(api.EAssign, op, a, b))
	}
	return l
}

func binaryKind(op string) int {
	if op == "&&" || op == "||" {
		return api.ELogic
	}
	return api.EBinary
}

// around calls f for each tree in which n stands: in statements, and on in brackets
// or between other signs.
func around(n api.Node, f func(api.Node)) {
	a := name("a")
	for _, x := range []api.Node{n, node(api.EArray, n), node(api.EIndex, a, n), node(api.ECall, a, n), node(api.ENew, a, n), node(api.EObject, prop("p", n)), function(api.EFunc, "", "", node(api.SExpr, n)),
		node(api.ECond, n, n, n), member(n, "m"), named(api.EUnary, "!", n), named(api.EAssign, "=", a, n), node(api.EComma, n, n), named(api.EBinary, "+", n, n)} {
		if slices.Contains(classes['t'], x.Kind) {
			f(program(node(api.SForIn, x, n, block)))
		}
		for _, s := range []api.Node{node(api.SExpr, x), node(api.SFor, x, x, x, block), node(api.SFor, node(api.SVar, named(api.SDecl, "v", x)), empty, empty, block)} {
			f(program(s))
		}
	}
	f(program(node(api.SVar, named(api.SDecl, "v", n)), node(api.SIf, n, block), node(api.SWhile, n, block), node(api.SDo, block, n)))
	f(program(node(api.SReturn, n), node(api.SThrow, n), node(api.SSwitch, n, node(api.SCase, n))))
	f(program(node(api.SForIn, a, n, node(api.SBlock, node(api.SExpr, n)))))
}

// TestTextOfPairs writes each expression in each place of each other one, and that
// in statements.
func TestTextOfPairs(t *testing.T) {
	count := 0
	l := inner()
	for _, outer := range l {
		for i, x := range outer.L {
			for _, n := range l {
				m := outer
				m.L = slices.Clone(m.L)
				m.L[i] = n
				if x.Kind == api.EProp {
					m.L[i] = prop("p", n)
				} else if !fits(m) {
					continue
				}
				count++
				around(m, func(whole api.Node) {
					if got, want := first(tree.Text(whole)), first(wantedText(whole)); got != want {
						t.Fatalf("got %q, want %q", got, want)
					}
				})
			}
		}
	}
	if count < 3000 {
		t.Errorf("only %d pairs", count)
	}
}

// TestTextOfIn: in is permitted within brackets and between ? and :, but not in
// the first part of a loop besides.
func TestTextOfIn(t *testing.T) {
	n := named(api.EBinary, "in", name("a"), name("b"))
	for _, x := range inner() {
		for i := range x.L {
			m := x
			m.L = slices.Clone(m.L)
			m.L[i] = n
			around(m, func(whole api.Node) { wantText(t, whole) })
		}
	}
	around(n, func(whole api.Node) { wantText(t, whole) })
	around(named(api.EBinary, "in", n, n), func(whole api.Node) { wantText(t, whole) })
	loop := node(api.SFor, n, n, n, block)
	for range 5 {
		loop = node(api.SFor, function(api.EFunc, "", "", node(api.SExpr, n), loop, node(api.SExpr, n)), n, n, node(api.SBlock, loop, node(api.SExpr, n)))
	}
	wantText(t, program(loop))
	loop = node(api.SForIn, member(function(api.EFunc, "", "", node(api.SExpr, n), node(api.SFor, n, n, n, block), node(api.SExpr, n)), "a"), n, node(api.SBlock, node(api.SExpr, n)))
	wantText(t, program(loop, node(api.SExpr, n)))
}

func first(s string, e api.Errno) string {
	return fmt.Sprint(e, s)
}

func TestTextOfWrong(t *testing.T) {
	long := slices.Repeat([]api.Node{sample(api.SExpr)}, 3000)
	for _, x := range []struct {
		n    api.Node
		want api.Errno
	}{
		{api.Node{}, api.ErrTree},
		{num(1), api.ErrTree},
		{program(name("a")), api.ErrTree},
		{say(api.Node{Kind: api.EStr, Text: "a"}), api.ErrTree},
		{say(name("in")), api.ErrTree},
		{program(deep(block, 63)), api.ErrDeep},
		{program(deep(block, 62)), api.OK},
		// ErrTree ahead of ErrDeep, and that ahead of ErrLong.
		{program(deep(block, 63), name("a")), api.ErrTree},
		{program(append(long, name("a"))...), api.ErrTree},
		{program(append(long, deep(block, 63))...), api.ErrDeep},
		{program(append(long, deep(block, 62))...), api.ErrLong},
		{program(slices.Repeat(long, 100)...), api.ErrLong},
		{say(name(strings.Repeat("n", 5000))), api.ErrTree},
		{say(str(strings.Repeat("n", 1000000))), api.ErrLong},
	} {
		got, e := tree.Text(x.n)
		if e != x.want || e != api.OK && got != "" {
			t.Errorf("Text(%.200v): got %.200q, %d, want %d", x.n, got, e, x.want)
		}
	}
}

func TestTextOfLong(t *testing.T) {
	// Around 4096 bytes: of text, of what is escaped, and of tokens and blanks.
	count := map[api.Errno]int{}
	for size := 4080; size < 4110; size++ {
		for _, n := range []api.Node{
			say(str(strings.Repeat("a", size))),
			say(str(strings.Repeat("a", size-6*600) + strings.Repeat("\uffff", 600))),
			program(append(slices.Repeat([]api.Node{node(api.SEmpty)}, 2000), node(api.SExpr, str(strings.Repeat("a", size-4000))))...),
		} {
			_, e := wantText(t, n)
			count[e]++
		}
	}
	if count[api.OK] < 30 || count[api.ErrLong] < 30 {
		t.Errorf("got %v", count)
	}
	for i, want := range []api.Errno{api.OK, api.OK, api.ErrLong, api.ErrLong} {
		// The quotes and a semicolon with its blank are four bytes.
		n := say(str(strings.Repeat("a", 4096-4-1+i)))
		if s, e := tree.Text(n); e != want || len(s) != 0 && len(s) != 4095+i {
			t.Errorf("%d: got %d bytes, %d", i, len(s), e)
		}
	}
	for n := 2040; n < 2055; n++ {
		s, e := wantText(t, program(slices.Repeat([]api.Node{node(api.SEmpty)}, n)...))
		if (e == api.OK) != (2*n-1 <= 4096) || e == api.OK && len(s) != 2*n-1 {
			t.Errorf("%d semicolons: got %d bytes, %d", n, len(s), e)
		}
	}
}

// TestTokensOfTexts: a text is its tokens with a blank between any two of them.
func TestTokensOfTexts(t *testing.T) {
	r := rand.New(rand.NewPCG(5, 6))
	count := 0
	for range 3000 {
		n := random(r)
		s, e := wantText(t, n)
		if e != api.OK {
			continue
		}
		l, _, e := token.Cut(s)
		var tokens []string
		for i := range l[:len(l)-1] {
			tokens = append(tokens, strings.TrimSuffix(s[l[i].At:l[i+1].At], " "))
		}
		count += len(tokens)
		if e != api.OK || strings.Join(tokens, " ") != s {
			t.Fatalf("%q has the tokens %q, %d", s, tokens, e)
		}
	}
	if count < 100000 {
		t.Errorf("only %d tokens", count)
	}
}

// R2

func TestTextsShareNothing(t *testing.T) {
	n := fresh(program(node(api.SExpr, name("some_name")), node(api.SExpr, api.Node{Kind: api.EStr, Text: wide("some text")}), function(api.SFunc, "other", "abc", node(api.SReturn, str("function")))))
	taken := map[uintptr]bool{}
	clash := func(s string) bool {
		found := false
		for i := range len(s) {
			at := uintptr(unsafe.Pointer(unsafe.StringData(s))) + uintptr(i)
			found = found || taken[at]
			taken[at] = true
		}
		return found
	}
	var visit func(api.Node)
	visit = func(n api.Node) {
		clash(n.Name)
		clash(n.Text)
		for _, s := range n.Names {
			clash(s)
		}
		for _, x := range n.L {
			visit(x)
		}
	}
	visit(n)
	first, e1 := tree.Text(n)
	second, e2 := tree.Text(n)
	if e1 != api.OK || e2 != api.OK || first != second || clash(first) || clash(second) {
		t.Errorf("got %q, %d and %q, %d, which share memory", first, e1, second, e2)
	}
}
