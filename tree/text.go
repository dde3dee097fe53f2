package tree

import (
	"slices"
	"strconv"
	"strings"

	"credenza/api"
	"credenza/units"
)

// The levels of expressions: one of a lower level is enclosed where one of a
// higher level is wanted.
const (
	commaLevel = iota
	assignLevel
	condLevel
	orLevel
	andLevel
	equalLevel
	compareLevel
	sumLevel
	productLevel
	unaryLevel // and ++ and -- ahead
	behindLevel
	callLevel
	newLevel
	basicLevel
)

// inWord is the operator that is not permitted everywhere.
const inWord = "in"

// Text returns the text of n.
func Text(n api.Node) (string, api.Errno) {
	if e := Check(n); e != api.OK {
		return "", e
	}
	var w writer
	w.statements(n.L)
	text := strings.Join(w.tokens, " ")
	if len(text) > api.MaxSource {
		return "", api.ErrLong
	}
	return text, api.OK
}

// writer gathers the tokens of a tree that is valid and not too deep.
type writer struct {
	tokens []string
	noIn   bool // an in needs brackets of its own
}

// add adds those tokens that are not empty: a name may be left out.
func (w *writer) add(tokens ...string) {
	for _, token := range tokens {
		if token != "" {
			w.tokens = append(w.tokens, token)
		}
	}
}

// enclose adds what content adds, between two brackets, in which an in needs none
// of its own.
func (w *writer) enclose(left, right string, content func()) {
	was := w.noIn
	w.noIn = false
	w.add(left)
	content()
	w.add(right)
	w.noIn = was
}

// commas adds what one adds for each index below count, with commas between.
func (w *writer) commas(count int, one func(i int)) {
	for i := range count {
		if i > 0 {
			w.add(",")
		}
		one(i)
	}
}

// expr adds an expression where one of at least that level is wanted.
func (w *writer) expr(n api.Node, least int) {
	if level(n) < least || w.noIn && n.Kind == api.EBinary && n.Name == inWord {
		w.enclose("(", ")", func() { w.bare(n) })
	} else {
		w.bare(n)
	}
}

// bare adds an expression that is not enclosed.
func (w *writer) bare(n api.Node) {
	l := n.L
	switch n.Kind {
	case api.EIndex:
		w.expr(l[0], callLevel)
		w.enclose("[", "]", func() { w.expr(l[1], commaLevel) })
	case api.EMember:
		w.expr(l[0], callLevel)
		w.add(".", n.Name)
	case api.ECall:
		w.expr(l[0], callLevel)
		w.elements("(", ")", l[1:])
	case api.ENew:
		w.add("new")
		w.expr(l[0], newLevel)
		w.elements("(", ")", l[1:])
	case api.EUnary:
		w.add(n.Name)
		w.expr(l[0], unaryLevel)
	case api.EUpdate:
		w.update(n)
	case api.EBinary, api.ELogic:
		w.expr(l[0], level(n))
		w.add(n.Name)
		w.expr(l[1], level(n)+1)
	case api.ECond:
		w.expr(l[0], orLevel)
		w.enclose("?", ":", func() { w.expr(l[1], assignLevel) })
		w.expr(l[2], assignLevel)
	case api.EAssign:
		w.expr(l[0], callLevel)
		w.add(n.Name)
		w.expr(l[1], assignLevel)
	case api.EComma:
		w.expr(l[0], commaLevel)
		w.add(",")
		w.expr(l[1], assignLevel)
	default:
		w.basic(n)
	}
}

// basic adds an expression that does not begin or end with another one.
func (w *writer) basic(n api.Node) {
	switch n.Kind {
	case api.ENum:
		w.add(strconv.FormatInt(n.Num, 10))
	case api.EStr:
		w.add(quoted(n.Text))
	case api.EName:
		w.add(n.Name)
	case api.EThis:
		w.add("this")
	case api.ENull:
		w.add("null")
	case api.EBool:
		w.add(strconv.FormatBool(n.Num == 1))
	case api.EArray:
		w.elements("[", "]", n.L)
	case api.EObject:
		w.object(n.L)
	case api.EFunc:
		w.function(n)
	}
}

// elements adds expressions with commas between, in brackets.
func (w *writer) elements(left, right string, l []api.Node) {
	w.enclose(left, right, func() {
		w.commas(len(l), func(i int) { w.expr(l[i], assignLevel) })
	})
}

// object adds properties with commas between, in brackets.
func (w *writer) object(props []api.Node) {
	w.enclose("{", "}", func() {
		w.commas(len(props), func(i int) {
			w.add(quoted(props[i].Text), ":")
			w.expr(props[i].L[0], assignLevel)
		})
	})
}

// function adds an EFunc or an SFunc.
func (w *writer) function(n api.Node) {
	w.add("function", n.Name)
	w.enclose("(", ")", func() {
		w.commas(len(n.Names), func(i int) { w.add(n.Names[i]) })
	})
	w.block(n.L)
}

// update adds an EUpdate.
func (w *writer) update(n api.Node) {
	if n.Num == 1 {
		w.add(n.Name)
	}
	w.expr(n.L[0], callLevel)
	if n.Num == 0 {
		w.add(n.Name)
	}
}

// statements adds statements one after the other.
func (w *writer) statements(l []api.Node) {
	for _, n := range l {
		w.statement(n)
	}
}

// statement adds a statement, or an SCase.
func (w *writer) statement(n api.Node) {
	l := n.L
	switch n.Kind {
	case api.SVar:
		w.vars(l)
		w.add(";")
	case api.SExpr:
		w.exprStatement(l[0])
	case api.SBlock:
		w.block(l)
	case api.SIf:
		w.head("if", l[0])
		w.statement(l[1])
		if len(l) > 2 {
			w.add("else")
			w.statement(l[2])
		}
	case api.SWhile:
		w.head("while", l[0])
		w.statement(l[1])
	case api.SDo:
		w.add("do")
		w.statement(l[0])
		w.head("while", l[1])
		w.add(";")
	case api.SFor:
		w.loop(l)
	case api.SForIn:
		w.loopIn(l)
	case api.STry:
		w.try(n)
	case api.SSwitch:
		w.head("switch", l[0])
		w.block(l[1:])
	case api.SCase:
		w.caseHead(l[0])
		w.statements(l[1:])
	case api.SLabel:
		w.add(n.Name, ":")
		w.statement(l[0])
	case api.SFunc:
		w.function(n)
	default:
		w.short(n)
	}
}

// short adds a statement that has no other one in it, and no brackets.
func (w *writer) short(n api.Node) {
	switch n.Kind {
	case api.SBreak:
		w.add("break", n.Name)
	case api.SContinue:
		w.add("continue", n.Name)
	case api.SReturn:
		w.add("return")
	case api.SThrow:
		w.add("throw")
	}
	for _, value := range n.L {
		w.expr(value, commaLevel)
	}
	w.add(";")
}

// block adds statements in brackets.
func (w *writer) block(l []api.Node) {
	w.enclose("{", "}", func() { w.statements(l) })
}

// head adds a word and an expression in brackets.
func (w *writer) head(word string, n api.Node) {
	w.add(word)
	w.enclose("(", ")", func() { w.expr(n, commaLevel) })
}

// exprStatement adds an expression that is a statement. It is enclosed if it
// would be read as a block or as a function's declaration.
func (w *writer) exprStatement(n api.Node) {
	start := len(w.tokens)
	w.expr(n, commaLevel)
	if first := w.tokens[start]; first == "{" || first == "function" {
		w.tokens = slices.Insert(w.tokens, start, "(")
		w.add(")")
	}
	w.add(";")
}

// vars adds an SVar without its semicolon.
func (w *writer) vars(decls []api.Node) {
	w.add("var")
	w.commas(len(decls), func(i int) {
		w.add(decls[i].Name)
		for _, value := range decls[i].L {
			w.add("=")
			w.expr(value, assignLevel)
		}
	})
}

// loop adds an SFor.
func (w *writer) loop(l []api.Node) {
	w.add("for")
	w.enclose("(", ")", func() {
		w.noIn = true
		w.part(l[0])
		w.noIn = false
		w.add(";")
		w.part(l[1])
		w.add(";")
		w.part(l[2])
	})
	w.statement(l[3])
}

// loopIn adds an SForIn. A target needs no brackets, and an in within it stands in
// brackets anyway.
func (w *writer) loopIn(l []api.Node) {
	w.add("for")
	w.enclose("(", ")", func() {
		w.part(l[0])
		w.add(inWord)
		w.expr(l[1], commaLevel)
	})
	w.statement(l[2])
}

// part adds one of those that stand in the brackets of an SFor or an SForIn.
func (w *writer) part(n api.Node) {
	switch n.Kind {
	case api.Empty:
	case api.SVar:
		w.vars(n.L)
	default:
		w.expr(n, commaLevel)
	}
}

// try adds an STry.
func (w *writer) try(n api.Node) {
	w.add("try")
	w.statement(n.L[0])
	if catches(n) {
		w.add("catch", "(", n.Name, ")")
		w.statement(n.L[1])
	}
	if isBlock(n.L[2]) {
		w.add("finally")
		w.statement(n.L[2])
	}
}

// caseHead adds what stands ahead of the statements of an SCase with that value.
func (w *writer) caseHead(value api.Node) {
	if isEmpty(value) {
		w.add("default", ":")
		return
	}
	w.add("case")
	w.expr(value, commaLevel)
	w.add(":")
}

// level returns the level of an expression.
func level(n api.Node) int {
	switch n.Kind {
	case api.EComma:
		return commaLevel
	case api.EAssign:
		return assignLevel
	case api.ECond:
		return condLevel
	case api.EBinary, api.ELogic:
		return operatorLevel(n.Name)
	case api.EUnary:
		return unaryLevel
	case api.EUpdate:
		if n.Num == 1 {
			return unaryLevel
		}
		return behindLevel
	case api.ECall:
		return callLevel
	case api.EMember, api.EIndex:
		if level(n.L[0]) >= newLevel {
			return newLevel
		}
		return callLevel
	case api.ENew:
		return newLevel
	}
	return basicLevel
}

// operatorLevel returns the level of an EBinary or ELogic with that operator, and
// the lowest one if it is none.
func operatorLevel(operator string) int {
	switch operator {
	case "||":
		return orLevel
	case "&&":
		return andLevel
	case "==", "!=", "===", "!==":
		return equalLevel
	case "<", ">", "<=", ">=", inWord, "instanceof":
		return compareLevel
	case "+", "-":
		return sumLevel
	case "*", "/", "%":
		return productLevel
	}
	return commaLevel
}

// quoted returns the literal for u, which is a string of units.
func quoted(u string) string {
	s, _ := units.Quote(u)
	return s
}
