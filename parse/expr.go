package parse

import (
	"strconv"

	"credenza/api"
	"credenza/tree"
	"credenza/units"
)

// The levels of operators with two operands: one of a higher level has its operands
// first.
const (
	noLevel = iota
	orLevel
	andLevel
	equalLevel
	compareLevel
	sumLevel
	productLevel
)

// expr reads an expression of any kind.
func (p *parser) expr() api.Node {
	n := p.assignment()
	for p.took(",") {
		n = node(api.EComma, n, p.assignment())
	}
	return n
}

// assignment reads an expression that has no comma outside brackets.
func (p *parser) assignment() api.Node {
	n := p.conditional()
	if isAssignment(p.symbol()) && tree.IsTarget(n) {
		operator := p.take().Text
		return named(api.EAssign, operator, n, p.assignment())
	}
	return n
}

// conditional reads an ECond or its first operand alone.
func (p *parser) conditional() api.Node {
	n := p.binary(orLevel)
	if !p.is("?") {
		return n
	}
	n = node(api.ECond, n)
	p.enclosed("?", ":", func() { n.L = append(n.L, p.assignment()) })
	n.L = append(n.L, p.assignment())
	return n
}

// binary reads an expression whose operators with two operands are of at least that
// level.
func (p *parser) binary(least int) api.Node {
	n := p.unary()
	for level := p.level(); level >= least; level = p.level() {
		kind := api.EBinary
		if level <= andLevel {
			kind = api.ELogic
		}
		operator := p.take().Text
		n = named(kind, operator, n, p.binary(level+1))
	}
	return n
}

// level returns the level of the next token, or noLevel if it is no operator with
// two operands here.
func (p *parser) level() int {
	switch p.symbol() {
	case "||":
		return orLevel
	case "&&":
		return andLevel
	case "==", "!=", "===", "!==":
		return equalLevel
	case "<", ">", "<=", ">=", "instanceof":
		return compareLevel
	case "in":
		if !p.noIn {
			return compareLevel
		}
	case "+", "-":
		return sumLevel
	case "*", "/", "%":
		return productLevel
	}
	return noLevel
}

// unary reads an expression whose operators have one operand.
func (p *parser) unary() api.Node {
	switch {
	case isUnary(p.symbol()):
		operator := p.take().Text
		return named(api.EUnary, operator, p.unary())
	case isUpdate(p.symbol()):
		n := named(api.EUpdate, p.take().Text, p.unary())
		n.Num = 1
		// An operand that is no target is read to its end, for the error is behind it.
		if !tree.IsTarget(n.L[0]) {
			panic(api.ErrSyntax)
		}
		return n
	}
	n := p.call()
	if isUpdate(p.symbol()) && !p.isFresh() && tree.IsTarget(n) {
		return named(api.EUpdate, p.take().Text, n)
	}
	return n
}

// call reads an expression whose operators are all dots and brackets.
func (p *parser) call() api.Node {
	n := p.basic()
	for {
		switch {
		case p.is("("):
			n = p.arguments(node(api.ECall, n))
		case p.isAccess():
			n = p.access(n)
		default:
			return n
		}
	}
}

// member is call, but leaves the arguments: they are those of a new ahead of it.
func (p *parser) member() api.Node {
	n := p.basic()
	for p.isAccess() {
		n = p.access(n)
	}
	return n
}

// isAccess reports whether the next token begins a property's name or key.
func (p *parser) isAccess() bool {
	return p.is(".") || p.is("[")
}

// access reads what follows n, the object, in an EMember or an EIndex.
func (p *parser) access(n api.Node) api.Node {
	if p.took(".") {
		if !p.isOf(api.TName) && !p.isOf(api.TWord) {
			panic(api.ErrSyntax)
		}
		return named(api.EMember, p.take().Text, n)
	}
	n = node(api.EIndex, n)
	p.enclosed("[", "]", func() { n.L = append(n.L, p.expr()) })
	return n
}

// arguments adds to n, an ECall or an ENew, the arguments that it reads.
func (p *parser) arguments(n api.Node) api.Node {
	p.list("(", ")", func() { n.L = append(n.L, p.assignment()) })
	return n
}

// basic reads an expression that no operator begins or ends, but for new.
func (p *parser) basic() api.Node {
	switch t := p.left[0]; t.Kind {
	case api.TNum:
		p.take()
		return api.Node{Kind: api.ENum, Num: t.Num}
	case api.TStr:
		p.take()
		return api.Node{Kind: api.EStr, Text: t.Text}
	case api.TName:
		return named(api.EName, p.name())
	}
	switch p.symbol() {
	case "(":
		return p.bracketed()
	case "[":
		return p.array()
	case "{":
		return p.object()
	case "function":
		return p.function(api.EFunc)
	}
	return p.word()
}

// word reads a basic expression that begins with a word of its own.
func (p *parser) word() api.Node {
	switch {
	case p.took("this"):
		return node(api.EThis)
	case p.took("null"):
		return node(api.ENull)
	case p.took("false"):
		return node(api.EBool)
	case p.took("true"):
		return api.Node{Kind: api.EBool, Num: 1}
	}
	p.must("new")
	n := node(api.ENew, p.member())
	if p.is("(") {
		n = p.arguments(n)
	}
	return n
}

// bracketed reads an expression in brackets, of which the tree tells nothing.
func (p *parser) bracketed() (n api.Node) {
	p.enclosed("(", ")", func() { n = p.expr() })
	return n
}

// array reads an EArray.
func (p *parser) array() api.Node {
	n := node(api.EArray)
	p.looseList("[", "]", func() { n.L = append(n.L, p.assignment()) })
	return n
}

// object reads an EObject.
func (p *parser) object() api.Node {
	n := node(api.EObject)
	p.looseList("{", "}", func() {
		key := p.key()
		p.must(":")
		n.L = append(n.L, api.Node{Kind: api.EProp, Text: key, L: []api.Node{p.assignment()}})
	})
	return n
}

// key takes a property's name off.
func (p *parser) key() string {
	text := p.left[0].Text
	switch p.left[0].Kind {
	case api.TStr:
		return p.take().Text
	case api.TNum:
		text = strconv.FormatInt(p.left[0].Num, 10)
	case api.TName, api.TWord:
	default:
		panic(api.ErrSyntax)
	}
	p.take()
	u, _ := units.Of(text)
	return u
}

// function reads an EFunc or an SFunc, which has to have a name.
func (p *parser) function(kind int) api.Node {
	p.must("function")
	n := node(kind)
	if kind == api.SFunc || p.isOf(api.TName) {
		n.Name = p.name()
	}
	p.list("(", ")", func() { n.Names = append(n.Names, p.name()) })
	n.L = p.block(true)
	return n
}

// isAssignment reports whether s is an operator of EAssign.
func isAssignment(s string) bool {
	switch s {
	case "=", "+=", "-=", "*=", "/=", "%=":
		return true
	}
	return false
}

// isUnary reports whether s is an operator of EUnary.
func isUnary(s string) bool {
	switch s {
	case "-", "+", "!", "typeof", "delete", "void":
		return true
	}
	return false
}

// isUpdate reports whether s is an operator of EUpdate.
func isUpdate(s string) bool {
	return s == "++" || s == "--"
}
