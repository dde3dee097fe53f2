package scope_test

import (
	"math/rand/v2"
	"slices"
	"strings"
	"testing"

	"credenza/api"
	"credenza/token"
	"credenza/tree"
)

func node(kind int, l ...api.Node) api.Node {
	return api.Node{Kind: kind, L: l}
}

func named(kind int, s string, l ...api.Node) api.Node {
	return api.Node{Kind: kind, Name: s, L: l}
}

func program(l ...api.Node) api.Node {
	return node(api.Program, l...)
}

// place is what a statement stands in, told in the way of the standard: a label belongs
// to the set of the statement behind it, and what may be continued is known by the sets
// of the loops.
type place struct {
	function, loop, exit bool     // return, continue and break without a label are permitted
	labels, loops        []string // what break and continue may name
	own                  []string // the labels of the statement itself
}

// isEarly reports whether a tree that is valid contains an early error.
func isEarly(n api.Node, p place) bool {
	if namesWrongly(n) || leavesWrongly(n, p) {
		return true
	}
	own := p.own
	p.own = nil
	switch n.Kind {
	case api.EFunc, api.SFunc:
		p = place{function: true}
	case api.SLabel:
		p.own = slices.Concat(own, []string{n.Name})
		p.labels = slices.Concat(p.labels, []string{n.Name})
	case api.SWhile, api.SDo, api.SFor, api.SForIn:
		p.loop, p.exit, p.loops = true, true, slices.Concat(p.loops, own)
	case api.SSwitch:
		p.exit = true
	}
	return slices.ContainsFunc(n.L, func(x api.Node) bool { return isEarly(x, p) })
}

func namesWrongly(n api.Node) bool {
	given := slices.Clone(n.Names)
	switch n.Kind {
	case api.SDecl, api.SFunc, api.EFunc, api.STry:
		given = append(given, n.Name)
	case api.EAssign, api.EUpdate, api.SForIn:
		if n.L[0].Kind == api.EName {
			given = append(given, n.L[0].Name)
		}
	case api.EUnary:
		if n.Name == "delete" && n.L[0].Kind == api.EName {
			return true
		}
	}
	var keys []string
	for _, x := range n.L {
		if x.Kind == api.EProp {
			keys = append(keys, x.Text)
		}
	}
	return slices.Contains(given, "eval") || slices.Contains(given, "arguments") || repeats(n.Names) || repeats(keys)
}

func leavesWrongly(n api.Node, p place) bool {
	switch n.Kind {
	case api.SReturn:
		return !p.function
	case api.SLabel:
		return slices.Contains(p.labels, n.Name)
	case api.SBreak:
		return n.Name == "" && !p.exit || n.Name != "" && !slices.Contains(p.labels, n.Name)
	case api.SContinue:
		return n.Name == "" && !p.loop || n.Name != "" && !slices.Contains(p.loops, n.Name)
	}
	return false
}

func repeats(l []string) bool {
	l = slices.Sorted(slices.Values(l))
	return len(slices.Compact(l)) < len(l)
}

// wantedCheck is what Check is to return.
func wantedCheck(n api.Node) api.Errno {
	if e := tree.Check(n); e != api.OK {
		return e
	}
	if isEarly(n, place{}) {
		return api.ErrEarly
	}
	return api.OK
}

// wantedVars is what Vars is to return, for nodes of any sort.
func wantedVars(l []api.Node) []string {
	var names []string
	for _, n := range l {
		if n.Kind == api.SDecl {
			names = append(names, n.Name)
		}
		if n.Kind != api.EFunc && n.Kind != api.SFunc {
			names = append(names, wantedVars(n.L)...)
		}
	}
	return firsts(names)
}

// firsts are the elements of l, each once.
func firsts(l []string) []string {
	var once []string
	for i, s := range l {
		if slices.Index(l, s) == i {
			once = append(once, s)
		}
	}
	return once
}

// writtenVars are the names that a text has behind each var and the commas that follow,
// but for those in functions.
func writtenVars(t *testing.T, text string) []string {
	t.Helper()
	l, _, e := token.Cut(text)
	if e != api.OK {
		t.Fatalf("%q: %d", text, e)
	}
	var names []string
	depth, list, ahead := 0, -1, false // list: how deep the declarations stand that go on
	for ; l[0].Kind != api.TEnd; l = l[1:] {
		switch symbol := symbol(l[0]); {
		case ahead:
			names = append(names, l[0].Text)
			ahead = false
			if l[1].Text == "in" {
				list = -1
			}
		case symbol == "function":
			l = endOfFunction(l)
		case symbol == "var":
			list, ahead = depth, true
		case symbol == "," && depth == list:
			ahead = true
		case symbol == ";" && depth == list:
			list = -1
		default:
			depth += step(symbol)
		}
	}
	return firsts(names)
}

// endOfFunction leaves away the tokens of a function, but for the last one.
func endOfFunction(l []api.Token) []api.Token {
	for symbol(l[0]) != "{" {
		l = l[1:]
	}
	for depth := 1; depth > 0; depth += step(symbol(l[0])) {
		l = l[1:]
	}
	return l
}

// symbol is the Text of a token that is a word or a sign.
func symbol(x api.Token) string {
	if x.Kind == api.TWord || x.Kind == api.TSign {
		return x.Text
	}
	return ""
}

// step tells by how much what follows stands deeper in brackets.
func step(symbol string) int {
	switch symbol {
	case "(", "[", "{":
		return 1
	case ")", "]", "}":
		return -1
	}
	return 0
}

// wantedFuncs is what Funcs is to return.
func wantedFuncs(l []api.Node) []api.Node {
	return slices.DeleteFunc(slices.Clone(l), func(n api.Node) bool { return n.Kind != api.SFunc })
}

// sameNodes compares lists of nodes.
func sameNodes(a, b []api.Node) bool {
	return slices.EqualFunc(a, b, tree.Same)
}

// fresh is a copy of n that shares no memory with it.
func fresh(n api.Node) api.Node {
	n.Name, n.Text = strings.Clone(n.Name), strings.Clone(n.Text)
	names, l := n.Names, n.L
	n.Names, n.L = nil, nil
	for _, s := range names {
		n.Names = append(n.Names, strings.Clone(s))
	}
	for _, x := range l {
		n.L = append(n.L, fresh(x))
	}
	return n
}

func pick[T any](r *rand.Rand, l ...T) T {
	return l[r.IntN(len(l))]
}

// maker makes random trees that are valid, most of them without an early error.
type maker struct {
	*rand.Rand
	left   int // from 0 on, no more nodes than needed are made
	faults int // one of so many names is one that nothing may be given
}

func (m *maker) more() bool {
	m.left--
	return m.left >= 0
}

func (m *maker) name() string {
	if m.IntN(m.faults) == 0 {
		return pick(m.Rand, "eval", "arguments")
	}
	return pick(m.Rand, "a", "b", "c", "d", "e", "f", "g", "h")
}

// names are the parameters of a function.
func (m *maker) names() []string {
	var l []string
	for range m.IntN(4) {
		if s := m.name(); !slices.Contains(l, s) || m.IntN(m.faults) == 0 {
			l = append(l, s)
		}
	}
	return l
}

func (m *maker) target() api.Node {
	switch {
	case !m.more() || m.IntN(2) == 0:
		return named(api.EName, m.name())
	case m.IntN(2) == 0:
		return named(api.EMember, pick(m.Rand, "eval", "in", "a"), m.expr())
	}
	return node(api.EIndex, m.expr(), m.expr())
}

func (m *maker) expr() api.Node {
	if !m.more() {
		return named(api.EName, pick(m.Rand, "a", "eval", "arguments"))
	}
	switch kind := 1 + m.IntN(21); kind {
	case api.EStr:
		return api.Node{Kind: kind, Text: "\x00,"}
	case api.EThis, api.ENull, api.ENum, api.EBool:
		return node(kind)
	case api.EArray:
		return node(kind, m.some(m.expr)...)
	case api.ECall, api.ENew:
		return node(kind, append(m.some(m.expr), m.expr())...)
	case api.EObject:
		return m.object()
	case api.EFunc:
		return api.Node{Kind: kind, Name: pick(m.Rand, "", m.name()), Names: m.names(), L: m.body(true)}
	case api.EUnary:
		n := named(kind, pick(m.Rand, "-", "typeof", "delete", "void"), m.expr())
		if n.L[0].Kind == api.EName && m.IntN(m.faults) > 0 {
			n.Name = "!"
		}
		return n
	case api.EUpdate:
		return api.Node{Kind: kind, Name: "++", Num: m.Int64N(2), L: []api.Node{m.target()}}
	case api.EBinary:
		return named(kind, pick(m.Rand, "+", "in"), m.expr(), m.expr())
	case api.ELogic:
		return named(kind, "&&", m.expr(), m.expr())
	case api.EAssign:
		return named(kind, pick(m.Rand, "=", "%="), m.target(), m.expr())
	case api.EComma:
		return node(kind, m.expr(), m.expr())
	case api.ECond:
		return node(kind, m.expr(), m.expr(), m.expr())
	}
	return m.target()
}

func (m *maker) object() api.Node {
	n := node(api.EObject)
	for range m.IntN(4) {
		text := "\x00" + pick(m.Rand, "a", "b", "c", "d", "e")
		if !slices.ContainsFunc(n.L, func(x api.Node) bool { return x.Text == text }) || m.IntN(m.faults) == 0 {
			n.L = append(n.L, api.Node{Kind: api.EProp, Text: text, L: []api.Node{m.expr()}})
		}
	}
	return n
}

// some are up to two nodes.
func (m *maker) some(one func() api.Node) []api.Node {
	var l []api.Node
	for range m.IntN(3) {
		l = append(l, one())
	}
	return l
}

// body are the statements of a function or a program.
func (m *maker) body(function bool) []api.Node {
	var l []api.Node
	for range m.IntN(8) {
		if m.IntN(5) == 0 && m.more() {
			l = append(l, api.Node{Kind: api.SFunc, Name: m.name(), Names: m.names(), L: m.body(true)})
		} else {
			l = append(l, m.statement(place{function: function}))
		}
	}
	return l
}

func (m *maker) block(p place) api.Node {
	n := node(api.SBlock)
	for range m.IntN(4) {
		n.L = append(n.L, m.statement(p))
	}
	return n
}

func (m *maker) decl() api.Node {
	if m.IntN(2) == 0 {
		return named(api.SDecl, m.name())
	}
	return named(api.SDecl, m.name(), m.expr())
}

func (m *maker) vars() api.Node {
	return node(api.SVar, append(m.some(m.decl), m.decl())...)
}

func (m *maker) statement(p place) api.Node {
	if !m.more() {
		return m.leave(p)
	}
	inLoop, inSwitch := p, p
	inLoop.loop, inLoop.exit, inLoop.loops = true, true, p.labels
	inSwitch.exit = true
	empty := node(api.Empty)
	switch m.IntN(18) {
	case 0:
		return node(api.SExpr, m.expr())
	case 1, 15, 16:
		return m.vars()
	case 2:
		return m.block(p)
	case 3:
		return node(api.SIf, m.expr(), m.block(p))
	case 4:
		return node(api.SIf, m.expr(), m.block(p), m.block(p))
	case 5:
		return node(api.SWhile, m.expr(), m.block(inLoop))
	case 6:
		return node(api.SDo, m.block(inLoop), m.expr())
	case 7:
		return node(api.SFor, pick(m.Rand, m.vars(), m.expr(), empty), m.expr(), empty, m.block(inLoop))
	case 8:
		return node(api.SForIn, node(api.SVar, named(api.SDecl, m.name())), m.expr(), m.block(inLoop))
	case 9:
		return node(api.SForIn, m.target(), m.expr(), m.block(inLoop))
	case 10:
		return named(api.STry, m.name(), m.block(p), m.block(p), pick(m.Rand, empty, m.block(p)))
	case 11:
		return node(api.STry, m.block(p), empty, m.block(p))
	case 12:
		return node(api.SSwitch, m.expr(), m.switchCase(inSwitch, m.expr()), m.switchCase(inSwitch, empty))
	case 13:
		return m.label(p)
	}
	return m.leave(p)
}

func (m *maker) switchCase(p place, value api.Node) api.Node {
	return node(api.SCase, append([]api.Node{value}, m.block(p).L...)...)
}

func (m *maker) label(p place) api.Node {
	s := m.name()
	if slices.Contains(p.labels, s) && m.IntN(m.faults) > 0 {
		return m.leave(p)
	}
	p.labels = slices.Concat(p.labels, []string{s})
	return named(api.SLabel, s, m.statement(p))
}

// leave is a statement that leaves others, mostly some that are there.
func (m *maker) leave(p place) api.Node {
	if m.IntN(m.faults) == 0 {
		p = place{true, true, true, []string{m.name()}, []string{m.name()}, nil}
	}
	l := []api.Node{node(api.SEmpty), node(api.SThrow, node(api.ENull))}
	if p.function {
		l = append(l, node(api.SReturn))
	}
	if p.exit {
		l = append(l, node(api.SBreak))
	}
	if p.loop {
		l = append(l, node(api.SContinue))
	}
	for _, s := range p.labels {
		l = append(l, named(api.SBreak, s))
	}
	for _, s := range p.loops {
		l = append(l, named(api.SContinue, s))
	}
	return pick(m.Rand, l...)
}

// random is a random program.
func random(r *rand.Rand) api.Node {
	m := maker{r, 4 + r.IntN(8<<r.IntN(6)), 5 << r.IntN(6)}
	return program(m.body(false)...)
}
