package tree_test

import (
	"math/rand/v2"
	"slices"
	"strings"
	"testing"

	"credenza/api"
	"credenza/token"
	"credenza/tree"
)

// reader reads a tree from its text again, so that no two trees can have the same.
type reader struct {
	l    []api.Token
	noIn bool
}

// is tells whether the next token is that sign or word.
func (r *reader) is(s string) bool {
	k := r.l[0].Kind
	return r.l[0].Text == s && (k == api.TSign || k == api.TWord)
}

// next takes the next token off.
func (r *reader) next() api.Token {
	x := r.l[0]
	r.l = r.l[1:]
	return x
}

// took takes that sign or word off, if it is the next token.
func (r *reader) took(s string) bool {
	if !r.is(s) {
		return false
	}
	r.next()
	return true
}

func (r *reader) must(s string) {
	if !r.took(s) {
		panic("no " + s + " but " + r.l[0].Text)
	}
}

// inside reads brackets and what is in them.
func (r *reader) inside(left, right string, content func()) {
	was := r.noIn
	r.noIn = false
	r.must(left)
	content()
	r.must(right)
	r.noIn = was
}

// until reads what stands ahead of a bracket, separated by commas.
func (r *reader) until(left, right string, one func()) {
	r.inside(left, right, func() {
		for more := !r.is(right); more; more = r.took(",") {
			one()
		}
	})
}

func (r *reader) name() string {
	if r.l[0].Kind != api.TName {
		return ""
	}
	return r.next().Text
}

func (r *reader) statements() []api.Node {
	var l []api.Node
	for r.l[0].Kind != api.TEnd && !r.is("}") && !r.is("case") && !r.is("default") {
		l = append(l, r.statement())
	}
	return l
}

func (r *reader) block() (l []api.Node) {
	r.inside("{", "}", func() { l = r.statements() })
	return l
}

func (r *reader) condition() (n api.Node) {
	r.inside("(", ")", func() { n = r.expr(0) })
	return n
}

func (r *reader) statement() api.Node {
	switch {
	case r.is("{"):
		return node(api.SBlock, r.block()...)
	case r.took(";"):
		return node(api.SEmpty)
	case r.is("var"):
		n := r.vars()
		r.must(";")
		return n
	case r.is("function"):
		n := r.function()
		n.Kind = api.SFunc
		return n
	case r.took("if"):
		n := node(api.SIf, r.condition(), r.statement())
		if r.took("else") {
			n.L = append(n.L, r.statement())
		}
		return n
	case r.took("while"):
		return node(api.SWhile, r.condition(), r.statement())
	case r.took("do"):
		n := node(api.SDo, r.statement())
		r.must("while")
		n.L = append(n.L, r.condition())
		r.must(";")
		return n
	case r.took("for"):
		return r.loop()
	case r.took("try"):
		return r.try()
	case r.took("switch"):
		return r.choice()
	case r.l[0].Kind == api.TName && r.l[1].Kind == api.TSign && r.l[1].Text == ":":
		n := named(api.SLabel, r.name())
		r.must(":")
		n.L = []api.Node{r.statement()}
		return n
	}
	return r.short()
}

func (r *reader) short() api.Node {
	n := node(api.SExpr)
	switch {
	case r.took("break"):
		n = named(api.SBreak, r.name())
	case r.took("continue"):
		n = named(api.SContinue, r.name())
	case r.took("return"):
		n.Kind = api.SReturn
	case r.took("throw"):
		n.Kind = api.SThrow
	}
	if !r.is(";") {
		n.L = []api.Node{r.expr(0)}
	}
	r.must(";")
	return n
}

func (r *reader) vars() api.Node {
	r.must("var")
	n := node(api.SVar)
	for more := true; more; more = r.took(",") {
		d := named(api.SDecl, r.name())
		if r.took("=") {
			d.L = []api.Node{r.expr(1)}
		}
		n.L = append(n.L, d)
	}
	return n
}

func (r *reader) part(end string) api.Node {
	if r.is(end) {
		return empty
	}
	return r.expr(0)
}

func (r *reader) loop() api.Node {
	n := node(api.SFor)
	r.inside("(", ")", func() {
		r.noIn = true
		if r.is("var") {
			n.L = append(n.L, r.vars())
		} else {
			n.L = append(n.L, r.part(";"))
		}
		r.noIn = false
		if r.took("in") {
			n.Kind = api.SForIn
			n.L = append(n.L, r.expr(0))
			return
		}
		r.must(";")
		n.L = append(n.L, r.part(";"))
		r.must(";")
		n.L = append(n.L, r.part(")"))
	})
	n.L = append(n.L, r.statement())
	return n
}

func (r *reader) try() api.Node {
	n := node(api.STry, r.statement(), empty, empty)
	if r.took("catch") {
		r.inside("(", ")", func() { n.Name = r.name() })
		n.L[1] = r.statement()
	}
	if r.took("finally") {
		n.L[2] = r.statement()
	}
	return n
}

func (r *reader) choice() api.Node {
	n := node(api.SSwitch, r.condition())
	r.inside("{", "}", func() {
		for !r.is("}") {
			c := node(api.SCase, empty)
			if !r.took("default") {
				r.must("case")
				c.L[0] = r.expr(0)
			}
			r.must(":")
			c.L = append(c.L, r.statements()...)
			n.L = append(n.L, c)
		}
	})
	return n
}

func (r *reader) function() api.Node {
	r.must("function")
	n := named(api.EFunc, r.name())
	r.until("(", ")", func() { n.Names = append(n.Names, r.name()) })
	n.L = r.block()
	return n
}

// prefix reads an expression up to where an operator can stand.
func (r *reader) prefix() api.Node {
	switch x := r.l[0]; x.Kind {
	case api.TNum:
		return num(r.next().Num)
	case api.TStr:
		return api.Node{Kind: api.EStr, Text: r.next().Text}
	case api.TName:
		return name(r.next().Text)
	}
	var n api.Node
	switch s := r.l[0].Text; s {
	case "this", "null", "true", "false":
		return map[string]api.Node{"this": node(api.EThis), "null": null, "true": boolean(1), "false": boolean(0)}[r.next().Text]
	case "function":
		return r.function()
	case "(":
		return r.condition()
	case "[":
		n.Kind = api.EArray
		r.until("[", "]", func() { n.L = append(n.L, r.expr(1)) })
	case "{":
		n.Kind = api.EObject
		r.until("{", "}", func() {
			p := api.Node{Kind: api.EProp, Text: r.next().Text}
			r.must(":")
			p.L = []api.Node{r.expr(1)}
			n.L = append(n.L, p)
		})
	case "new":
		r.next()
		n = node(api.ENew, r.expr(12))
		r.until("(", ")", func() { n.L = append(n.L, r.expr(1)) })
	case "++", "--":
		n = update(r.next().Text, 1, r.expr(11))
	default:
		if !slices.Contains(strings.Fields("- + ! typeof delete void"), s) {
			panic("no expression begins with " + s)
		}
		n = named(api.EUnary, r.next().Text, r.expr(9))
	}
	return n
}

// expr reads an expression, up to an operator below that level.
func (r *reader) expr(least int) api.Node {
	n := r.prefix()
	for {
		s := r.l[0].Text
		own, known := levels[s]
		switch {
		case r.l[0].Kind != api.TSign && r.l[0].Kind != api.TWord:
			return n
		case r.took("."):
			n = member(n, r.next().Text)
		case s == "[":
			r.inside("[", "]", func() { n = node(api.EIndex, n, r.expr(0)) })
		case s == "(" && least <= 11:
			n = node(api.ECall, n)
			r.until("(", ")", func() { n.L = append(n.L, r.expr(1)) })
		case (s == "++" || s == "--") && least <= 10:
			n = update(r.next().Text, 0, n)
		case known && least <= own && (s != "in" || !r.noIn):
			n = named(binaryKind(r.next().Text), s, n, r.expr(own+1))
		case s == "?" && least <= 2:
			n = node(api.ECond, n)
			r.inside("?", ":", func() { n.L = append(n.L, r.expr(1)) })
			n.L = append(n.L, r.expr(1))
		case slices.Contains(strings.Fields("= += -= *= /= %="), s) && least <= 1:
			n = named(api.EAssign, r.next().Text, n, r.expr(1))
		case s == "," && least <= 0:
			r.next()
			n = node(api.EComma, n, r.expr(1))
		default:
			return n
		}
	}
}

// wantRead wants that tree to be read from a text.
func wantRead(t *testing.T, s string, want api.Node) {
	t.Helper()
	l, _, e := token.Cut(s)
	if e != api.OK {
		t.Fatalf("%q has no tokens: %d", s, e)
	}
	defer func() {
		if cause := recover(); cause != nil {
			t.Fatalf("%q, the text of %v, can't be read: %v", s, want, cause)
		}
	}()
	r := reader{l: l}
	got := program(r.statements()...)
	if len(r.l) != 1 || !equal(got, want) {
		t.Fatalf("%q was read as %v, want %v", s, got, want)
	}
}

// maker makes random trees.
type maker struct{ *rand.Rand }

func random(r *rand.Rand) api.Node {
	m := maker{r}
	n := program()
	for range m.IntN(9) {
		n.L = append(n.L, m.statement(m.IntN(9), true))
	}
	return n
}

func pick[T any](m maker, l ...T) T {
	return l[m.IntN(len(l))]
}

func (m maker) name() string {
	return pick(m, "a", "b", "x1", "$", "functions", "of", "eval", "in_", strings.Repeat("n", m.IntN(4)+1))
}

func (m maker) text() string {
	return pick(m, "", "\x00a", "\x00{", "\x00\n\x00\"", "\xff\xff", wide("function"), wide("a , b"), string([]byte{byte(m.IntN(2)), byte(m.IntN(256))}))
}

// exprs are so many expressions at the most.
func (m maker) exprs(left, most int) []api.Node {
	var l []api.Node
	for range m.IntN(most + 1) {
		l = append(l, m.expr(left))
	}
	return l
}

func (m maker) target(left int) api.Node {
	for {
		if n := m.expr(left); slices.Contains(classes['t'], n.Kind) {
			return n
		}
	}
}

// operator is one of a form's.
func (m maker) operator(kind int) string {
	return pick(m, strings.Fields(forms[kind].name)...)
}

func (m maker) expr(left int) api.Node {
	if left <= 0 {
		return pick(m, num(int64(m.IntN(20))), num(m.Int64N(api.MaxSafe)), api.Node{Kind: api.EStr, Text: m.text()}, name(m.name()), name(m.name()), node(api.EThis), null, boolean(int64(m.IntN(2))), node(api.EArray), node(api.EObject))
	}
	left--
	switch kind := pick(m, classes['e']...); kind {
	case api.EArray:
		return node(kind, m.exprs(left, 3)...)
	case api.EObject:
		n := node(kind)
		for _, x := range m.exprs(left, 2) {
			n.L = append(n.L, api.Node{Kind: api.EProp, Text: m.text(), L: []api.Node{x}})
		}
		return n
	case api.EFunc:
		return m.function(kind, pick(m, "", m.name()), left)
	case api.EMember:
		return named(kind, pick(m, "in", "function", "a", m.name()), m.expr(left))
	case api.ECall, api.ENew:
		return node(kind, append([]api.Node{m.expr(left)}, m.exprs(left, 2)...)...)
	case api.EUnary:
		return named(kind, m.operator(kind), m.expr(left))
	case api.EUpdate:
		return update(m.operator(kind), int64(m.IntN(2)), m.target(left))
	case api.EBinary, api.ELogic:
		op := pick(m, "in", m.operator(kind))
		return named(binaryKind(op), op, m.expr(left), m.expr(left))
	case api.EAssign:
		return named(kind, m.operator(kind), m.target(left), m.expr(left))
	case api.ECond:
		return node(kind, m.expr(left), m.expr(left), m.expr(left))
	case api.EIndex, api.EComma:
		return node(kind, m.expr(left), m.expr(left))
	}
	return m.expr(0)
}

func (m maker) function(kind int, name string, left int) api.Node {
	n := named(kind, name, m.statements(left, 3, true)...)
	for range m.IntN(3) {
		n.Names = append(n.Names, m.name())
	}
	return n
}

// statements are so many statements at the most; functions tells whether some may
// be SFuncs.
func (m maker) statements(left, most int, functions bool) []api.Node {
	var l []api.Node
	for range m.IntN(most + 1) {
		l = append(l, m.statement(left, functions))
	}
	return l
}

func (m maker) block(left int) api.Node {
	return node(api.SBlock, m.statements(left-1, 2, false)...)
}

func (m maker) vars(left int) api.Node {
	n := node(api.SVar)
	for range m.IntN(3) + 1 {
		n.L = append(n.L, named(api.SDecl, m.name(), m.exprs(left, 1)...))
	}
	return n
}

func (m maker) statement(left int, functions bool) api.Node {
	if left <= 0 {
		return pick(m, node(api.SEmpty), block, node(api.SBreak), named(api.SContinue, m.name()), node(api.SReturn), node(api.SExpr, m.expr(0)))
	}
	left--
	switch kind := pick(m, classes['s']...); kind {
	case api.SVar:
		return m.vars(left)
	case api.SExpr, api.SThrow:
		return node(kind, m.expr(left))
	case api.SReturn:
		return node(kind, m.exprs(left, 1)...)
	case api.SBlock:
		return node(kind, m.statements(left, 3, false)...)
	case api.SIf:
		n := node(kind, m.expr(left), m.block(left), m.block(left))
		n.L = n.L[:2+m.IntN(2)]
		return n
	case api.SWhile:
		return node(kind, m.expr(left), m.block(left))
	case api.SDo:
		return node(kind, m.block(left), m.expr(left))
	case api.SFor:
		return node(kind, pick(m, empty, m.vars(left), m.expr(left)), pick(m, empty, m.expr(left)), pick(m, empty, m.expr(left)), m.block(left))
	case api.SForIn:
		return node(kind, pick(m, m.target(left), node(api.SVar, named(api.SDecl, m.name()))), m.expr(left), m.block(left))
	case api.SBreak, api.SContinue:
		return named(kind, pick(m, "", m.name()))
	case api.STry:
		return pick(m, node(kind, m.block(left), empty, m.block(left)), named(kind, m.name(), m.block(left), m.block(left), pick(m, empty, m.block(left))))
	case api.SSwitch:
		return m.choice(left)
	case api.SLabel:
		return named(kind, m.name(), m.statement(left, false))
	case api.SFunc:
		if functions {
			return m.function(kind, m.name(), left)
		}
	}
	return node(api.SEmpty)
}

func (m maker) choice(left int) api.Node {
	n := node(api.SSwitch, m.expr(left))
	def := m.IntN(4)
	for i := range m.IntN(4) {
		value := m.expr(left)
		if i == def {
			value = empty
		}
		n.L = append(n.L, node(api.SCase, append([]api.Node{value}, m.statements(left, 2, false)...)...))
	}
	return n
}

// P7.3

func TestTextsOfRandom(t *testing.T) {
	r := rand.New(rand.NewPCG(7, 8))
	count := map[api.Errno]int{}
	known := map[string]api.Node{}
	for range 10000 {
		n := random(r)
		s, e := wantText(t, n)
		count[e]++
		if m, again := known[s]; again && e == api.OK && !tree.Same(m, n) {
			t.Fatalf("%v and %v have the same text %q", m, n, s)
		}
		if e == api.OK {
			known[s] = n
		}
	}
	if count[api.OK] < 9000 || count[api.ErrTree] > 0 || len(known) < 6000 {
		t.Errorf("the trees are too much alike: %v, %d texts", count, len(known))
	}
}

// TestTextsOfMutants: what differs from a tree in one node has another text.
func TestTextsOfMutants(t *testing.T) {
	whole := everything()
	s, e := wantText(t, whole)
	if e != api.OK {
		t.Fatalf("got %d", e)
	}
	valid := 0
	mutants(whole, func(n api.Node) {
		u, e := wantText(t, n)
		if e == api.OK {
			valid++
		}
		if (u == s) != equal(n, whole) {
			t.Fatalf("%v and %v have the texts %q and %q", n, whole, u, s)
		}
	})
	if valid < 1000 {
		t.Errorf("only %d trees have a text", valid)
	}
	r := rand.New(rand.NewPCG(9, 10))
	for range 150 {
		whole := random(r)
		s, e := tree.Text(whole)
		if e != api.OK || len(s) > 300 {
			continue
		}
		mutants(whole, func(n api.Node) {
			if u, e := wantText(t, n); e == api.OK && (u == s) != tree.Same(n, whole) {
				t.Fatalf("%v and %v have the texts %q and %q", n, whole, u, s)
			}
		})
	}
}

// TestTextsOfSmall: no two of many small trees have the same text.
func TestTextsOfSmall(t *testing.T) {
	known := map[string]api.Node{}
	add := func(n api.Node) {
		s, e := tree.Text(n)
		if m, again := known[s]; e == api.OK && again && !equal(m, n) {
			t.Fatalf("%v and %v have the same text %q", m, n, s)
		} else if e == api.OK {
			known[s] = n
		}
	}
	for _, n := range inner() {
		for _, m := range inner() {
			add(say(n))
			add(program(node(api.SExpr, n), node(api.SExpr, m)))
			for _, kind := range []int{api.EArray, api.EIndex, api.ECall, api.ENew, api.EComma} {
				add(say(node(kind, n, m)))
				add(say(node(kind, node(kind, n), m)))
				add(say(node(kind, m, node(kind, n))))
			}
			for _, op := range []string{"in", "-", "<", "||", "=", "+="} {
				for _, kind := range []int{api.EBinary, api.ELogic, api.EAssign} {
					add(say(named(kind, op, n, m)))
					add(program(node(api.SFor, named(kind, op, n, m), empty, empty, block)))
				}
			}
		}
	}
	if len(known) < 20000 {
		t.Errorf("only %d texts", len(known))
	}
}
