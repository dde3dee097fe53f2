package parse

import (
	"credenza/api"
	"credenza/tree"
)

// program reads all tokens.
func (p *parser) program() api.Node {
	n := node(api.Program, p.statements(true)...)
	if !p.isOf(api.TEnd) {
		panic(api.ErrSyntax)
	}
	return n
}

// statements reads statements as long as no token follows that ends a list of them.
// If functions, they may be SFuncs.
func (p *parser) statements(functions bool) []api.Node {
	var l []api.Node
	for !p.isOf(api.TEnd) && !p.is("}") && !p.is("case") && !p.is("default") {
		if functions && p.is("function") {
			l = append(l, p.function(api.SFunc))
		} else {
			l = append(l, p.statement())
		}
	}
	return l
}

// block reads statements in brackets.
func (p *parser) block(functions bool) (l []api.Node) {
	p.enclosed("{", "}", func() { l = p.statements(functions) })
	return l
}

// inner reads an SBlock.
func (p *parser) inner() api.Node {
	return node(api.SBlock, p.block(false)...)
}

// body reads a statement that is an SBlock in the tree.
func (p *parser) body() api.Node {
	n := p.statement()
	if n.Kind != api.SBlock {
		n = node(api.SBlock, n)
	}
	return n
}

// statement reads a statement other than an SFunc.
func (p *parser) statement() api.Node {
	switch p.symbol() {
	case "{":
		return p.inner()
	case "function":
		// It would begin an expression otherwise.
		panic(api.ErrSyntax)
	case "for":
		return p.loop()
	case "try":
		return p.try()
	case "switch":
		return p.choice()
	}
	switch {
	case p.took(";"):
		return node(api.SEmpty)
	case p.took("if"):
		n := node(api.SIf, p.bracketed(), p.body())
		if p.took("else") {
			n.L = append(n.L, p.body())
		}
		return n
	case p.took("while"):
		return node(api.SWhile, p.bracketed(), p.body())
	case p.isOf(api.TName) && symbol(p.left[1]) == ":":
		label := p.name()
		p.must(":")
		return named(api.SLabel, label, p.statement())
	}
	n := p.short()
	if !p.took(";") && !p.ends() {
		panic(api.ErrSyntax)
	}
	return n
}

// ends reports whether the ; of a statement may have been omitted ahead of the next
// token.
func (p *parser) ends() bool {
	return p.isFresh() || p.is("}") || p.isOf(api.TEnd)
}

// short reads a statement that ends with a ;, without it.
func (p *parser) short() api.Node {
	switch {
	case p.is("var"):
		return p.vars()
	case p.took("do"):
		n := node(api.SDo, p.body())
		p.must("while")
		n.L = append(n.L, p.bracketed())
		return n
	case p.took("break"):
		return named(api.SBreak, p.label())
	case p.took("continue"):
		return named(api.SContinue, p.label())
	case p.took("return"):
		if p.is(";") || p.ends() {
			return node(api.SReturn)
		}
		return node(api.SReturn, p.expr())
	case p.took("throw"):
		if p.isFresh() {
			panic(api.ErrSyntax)
		}
		return node(api.SThrow, p.expr())
	}
	return node(api.SExpr, p.expr())
}

// label takes a label off, if there is one in the same line.
func (p *parser) label() string {
	if p.isOf(api.TName) && !p.isFresh() {
		return p.name()
	}
	return ""
}

// vars reads an SVar without its ;.
func (p *parser) vars() api.Node {
	p.must("var")
	n := node(api.SVar)
	p.commas(func() {
		decl := named(api.SDecl, p.name())
		if p.took("=") {
			decl.L = []api.Node{p.assignment()}
		}
		n.L = append(n.L, decl)
	})
	return n
}

// loop reads an SFor or an SForIn.
func (p *parser) loop() api.Node {
	p.must("for")
	var n api.Node
	p.enclosed("(", ")", func() {
		p.noIn = true
		first := p.beginning()
		p.noIn = false
		if isTaker(first) && p.took("in") {
			n = node(api.SForIn, first, p.expr())
			return
		}
		p.must(";")
		n = node(api.SFor, first, p.optional(";"))
		p.must(";")
		n.L = append(n.L, p.optional(")"))
	})
	n.L = append(n.L, p.body())
	return n
}

// beginning reads what an SFor or an SForIn begins with.
func (p *parser) beginning() api.Node {
	if p.is("var") {
		return p.vars()
	}
	return p.optional(";")
}

// optional reads an expression, or nothing ahead of end.
func (p *parser) optional(end string) api.Node {
	if p.is(end) {
		return node(api.Empty)
	}
	return p.expr()
}

// isTaker reports whether n may be what an SForIn gives values to.
func isTaker(n api.Node) bool {
	return tree.IsTarget(n) || n.Kind == api.SVar && len(n.L) == 1 && len(n.L[0].L) == 0
}

// try reads an STry.
func (p *parser) try() api.Node {
	p.must("try")
	n := node(api.STry, p.inner(), node(api.Empty), node(api.Empty))
	catches := p.took("catch")
	if catches {
		p.enclosed("(", ")", func() { n.Name = p.name() })
		n.L[1] = p.inner()
	}
	if !catches || p.is("finally") {
		p.must("finally")
		n.L[2] = p.inner()
	}
	return n
}

// choice reads an SSwitch.
func (p *parser) choice() api.Node {
	p.must("switch")
	n := node(api.SSwitch, p.bracketed())
	p.enclosed("{", "}", func() {
		for hasDefault := false; !p.is("}"); {
			value := node(api.Empty)
			if !hasDefault && p.took("default") {
				hasDefault = true
			} else {
				p.must("case")
				value = p.expr()
			}
			p.must(":")
			l := append([]api.Node{value}, p.statements(false)...)
			n.L = append(n.L, node(api.SCase, l...))
		}
	})
	return n
}
