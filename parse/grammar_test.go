package parse_test

import (
	"slices"
	"strconv"
	"strings"

	"credenza/api"
)

// What a rule makes of its parts, if it is not a node of a Kind.
const (
	pass  = 0  // the part itself
	list  = -1 // a list of nodes
	names = -2 // a list of names
)

// rule tells of which parts something consists, and what becomes of them: args has,
// by the index of a part, what stands in L, and what gives (@) Name, (#) Names, and
// (=) Num or Text; + stands for Num 1, and e for Empty. Where % stands, the rule holds
// twice, the second time with N, in which in is no operator.
//
// Some parts have no tokens: ~ the next token is not Fresh, ^ it begins neither an
// SBlock nor an SFunc, !else it is no else, @ a semicolon is omitted, and never none
// can follow.
type rule struct {
	left, right string
	kind        int
	args        string
}

// rules are the chapters' words: those of tree for the text, and those of parse for
// what a source may have instead.
var rules = twice([]rule{
	{"Start", "Items end", api.Program, "0"},
	{"Items", "Items Item", list, "0 1"},
	{"Items", "", list, ""},
	{"Item", "Stmt", pass, "0"},
	{"Item", "function name ( Names ) { Items }", api.SFunc, "@1 #3 6"},
	{"Names", "", names, ""},
	{"Names", "Some", pass, "0"},
	{"Some", "name", names, "0"},
	{"Some", "Some , name", names, "0 2"},

	{"Stmts", "", list, ""},
	{"Stmts", "Stmts Stmt", list, "0 1"},
	{"Stmt", "Block", pass, "0"},
	{"Stmt", "Other", pass, "0"},
	{"Block", "{ Stmts }", api.SBlock, "1"},
	{"Body", "Block", pass, "0"},
	{"Body", "Other", api.SBlock, "0"},
	{"Semi", ";", list, ""},
	{"Semi", "@", list, ""},
	{"Other", ";", api.SEmpty, ""},
	{"Other", "Var Semi", pass, "0"},
	{"Var%", "var Decls%", api.SVar, "1"},
	{"Decls%", "Decl%", list, "0"},
	{"Decls%", "Decls% , Decl%", list, "0 2"},
	{"Decl%", "name", api.SDecl, "@0"},
	{"Decl%", "name = A%", api.SDecl, "@0 2"},
	{"Other", "^ E Semi", api.SExpr, "1"},
	{"Other", "if ( E ) Body !else", api.SIf, "2 4"},
	{"Other", "if ( E ) Body else Body", api.SIf, "2 4 6"},
	{"Other", "while ( E ) Body", api.SWhile, "2 4"},
	{"Other", "do Body while ( E ) Semi", api.SDo, "1 4"},
	{"Other", "for ( First ; Maybe ; Maybe ) Body", api.SFor, "2 4 6 8"},
	{"First", "", api.Empty, ""},
	{"First", "VarN", pass, "0"},
	{"First", "EN", pass, "0"},
	{"Maybe", "", api.Empty, ""},
	{"Maybe", "E", pass, "0"},
	{"Other", "for ( Taker in E ) Body", api.SForIn, "2 4 6"},
	{"Taker", "T", pass, "0"},
	{"Taker", "var Lone", api.SVar, "1"},
	{"Lone", "name", api.SDecl, "@0"},
	{"Other", "break Semi", api.SBreak, ""},
	{"Other", "break ~ name Semi", api.SBreak, "@2"},
	{"Other", "continue Semi", api.SContinue, ""},
	{"Other", "continue ~ name Semi", api.SContinue, "@2"},
	{"Other", "return Semi", api.SReturn, ""},
	{"Other", "return ~ E Semi", api.SReturn, "2"},
	{"Other", "throw ~ E Semi", api.SThrow, "2"},
	{"Other", "try Block catch ( name ) Block", api.STry, "@4 1 6 e"},
	{"Other", "try Block finally Block", api.STry, "1 e 3"},
	{"Other", "try Block catch ( name ) Block finally Block", api.STry, "@4 1 6 8"},
	{"Other", "switch ( E ) { Cases }", api.SSwitch, "2 5"},
	{"Other", "switch ( E ) { Cases Default Cases }", api.SSwitch, "2 5 6 7"},
	{"Cases", "", list, ""},
	{"Cases", "Cases Case", list, "0 1"},
	{"Case", "case E : Stmts", api.SCase, "1 3"},
	{"Default", "default : Stmts", api.SCase, "e 2"},
	{"Other", "name : Stmt", api.SLabel, "@0 2"},

	{"E%", "A%", pass, "0"},
	{"E%", "E% , A%", api.EComma, "0 2"},
	{"A%", "Q%", pass, "0"},
	{"A%", "T assign A%", api.EAssign, "@1 0 2"},
	{"Q%", "L3%", pass, "0"},
	{"Q%", "L3% ? A : A%", api.ECond, "0 2 4"},
	{"L3%", "L4%", pass, "0"},
	{"L3%", "L3% || L4%", api.ELogic, "@1 0 2"},
	{"L4%", "L5%", pass, "0"},
	{"L4%", "L4% && L5%", api.ELogic, "@1 0 2"},
	{"L5%", "L6%", pass, "0"},
	{"L5%", "L5% equal L6%", api.EBinary, "@1 0 2"},
	{"L6%", "L7", pass, "0"},
	{"L6%", "L6% compare L7", api.EBinary, "@1 0 2"},
	{"L6", "L6 in L7", api.EBinary, "@1 0 2"},
	{"L7", "L8", pass, "0"},
	{"L7", "L7 sum L8", api.EBinary, "@1 0 2"},
	{"L8", "L9", pass, "0"},
	{"L8", "L8 product L9", api.EBinary, "@1 0 2"},
	{"L9", "L10", pass, "0"},
	{"L9", "unary L9", api.EUnary, "@0 1"},
	{"L9", "update T", api.EUpdate, "@0 1 +"},
	{"L9", "update L9 never", pass, "1"}, // what is no target is read to its end all the same
	{"L10", "M", pass, "0"},
	{"L10", "C", pass, "0"},
	{"L10", "Bare", pass, "0"},
	{"L10", "T ~ update", api.EUpdate, "@2 0"},

	// A C has a call in it that is no part of brackets, and an M has none; a Bare
	// is a new without arguments.
	{"C", "M Args", api.ECall, "0 1"},
	{"C", "C Args", api.ECall, "0 1"},
	{"C", "C . ident", api.EMember, "@2 0"},
	{"C", "C [ E ]", api.EIndex, "0 2"},
	{"M", "Prim", pass, "0"},
	{"M", "new M Args", api.ENew, "1 2"},
	{"M", "M . ident", api.EMember, "@2 0"},
	{"M", "M [ E ]", api.EIndex, "0 2"},
	{"Bare", "new M", api.ENew, "1"},
	{"Bare", "new Bare", api.ENew, "1"},
	{"T", "name", api.EName, "@0"},
	{"T", "C . ident", api.EMember, "@2 0"},
	{"T", "C [ E ]", api.EIndex, "0 2"},
	{"T", "M . ident", api.EMember, "@2 0"},
	{"T", "M [ E ]", api.EIndex, "0 2"},
	{"T", "( T )", pass, "1"},
	{"Args", "( )", list, ""},
	{"Args", "( List )", pass, "1"},
	{"List", "A", list, "0"},
	{"List", "List , A", list, "0 2"},
	{"Prim", "num", api.ENum, "=0"},
	{"Prim", "str", api.EStr, "=0"},
	{"Prim", "name", api.EName, "@0"},
	{"Prim", "this", api.EThis, ""},
	{"Prim", "null", api.ENull, ""},
	{"Prim", "false", api.EBool, ""},
	{"Prim", "true", api.EBool, "+"},
	{"Prim", "( E )", pass, "1"},
	{"Prim", "[ ]", api.EArray, ""},
	{"Prim", "[ List ]", api.EArray, "1"},
	{"Prim", "[ List , ]", api.EArray, "1"},
	{"Prim", "{ }", api.EObject, ""},
	{"Prim", "{ Props }", api.EObject, "1"},
	{"Prim", "{ Props , }", api.EObject, "1"},
	{"Props", "Prop", list, "0"},
	{"Props", "Props , Prop", list, "0 2"},
	{"Prop", "key : A", api.EProp, "=0 2"},
	{"Prim", "function ( Names ) { Items }", api.EFunc, "#2 5"},
	{"Prim", "function name ( Names ) { Items }", api.EFunc, "@1 #3 6"},
})

// sorts are the terminals that stand for several words or signs.
var sorts = map[string][]string{
	"assign":  strings.Fields("= += -= *= /= %="),
	"equal":   strings.Fields("== != === !=="),
	"compare": strings.Fields("< > <= >= instanceof"),
	"sum":     strings.Fields("+ -"),
	"product": strings.Fields("* / %"),
	"unary":   strings.Fields("- + ! typeof delete void"),
	"update":  strings.Fields("++ --"),
}

// form is a rule whose parts are taken apart.
type form struct {
	rule
	parts, args []string
}

// forms has the rules by what they are for.
var forms = func() map[string][]*form {
	m := map[string][]*form{}
	for _, r := range rules {
		m[r.left] = append(m[r.left], &form{r, strings.Fields(r.right), strings.Fields(r.args)})
	}
	return m
}()

func twice(l []rule) []rule {
	var all []rule
	for _, r := range l {
		for _, by := range []string{"", "N"} {
			if by == "" || strings.Contains(r.left, "%") {
				all = append(all, rule{strings.ReplaceAll(r.left, "%", by), strings.ReplaceAll(r.right, "%", by), r.kind, r.args})
			}
		}
	}
	return all
}

// fits tells whether a token is what a terminal stands for.
func fits(x api.Token, terminal string) bool {
	isSymbol := x.Kind == api.TWord || x.Kind == api.TSign
	if l := sorts[terminal]; l != nil {
		return isSymbol && slices.Contains(l, x.Text)
	}
	switch terminal {
	case "end":
		return x.Kind == api.TEnd
	case "num":
		return x.Kind == api.TNum
	case "str":
		return x.Kind == api.TStr
	case "name":
		return x.Kind == api.TName
	case "ident":
		return x.Kind == api.TName || x.Kind == api.TWord
	case "key":
		return x.Kind != api.TEnd && x.Kind != api.TSign
	}
	return isSymbol && x.Text == terminal
}

// wide are the bytes of s as units.
func wide(s string) string {
	var u []byte
	for i := range len(s) {
		u = append(u, 0, s[i])
	}
	return string(u)
}

// make is what a rule makes of its parts.
func (f *form) make(parts []any) any {
	n := api.Node{Kind: f.kind}
	for _, arg := range f.args {
		if arg == "+" {
			n.Num = 1
			continue
		}
		if arg == "e" {
			n.L = append(n.L, api.Node{Kind: api.Empty})
			continue
		}
		at, _ := strconv.Atoi(strings.TrimLeft(arg, "@#="))
		if f.kind == pass {
			return parts[at]
		}
		f.put(&n, arg[0], parts[at])
	}
	switch f.kind {
	case list:
		return n.L
	case names:
		return n.Names
	}
	return n
}

func (f *form) put(n *api.Node, how byte, part any) {
	switch x := part.(type) {
	case api.Node:
		n.L = append(n.L, x)
	case []api.Node:
		n.L = append(n.L, x...)
	case []string:
		n.Names = append(n.Names, x...)
	case api.Token:
		switch {
		case how == '@':
			n.Name = x.Text
		case f.kind == names:
			n.Names = append(n.Names, x.Text)
		case f.kind == api.ENum:
			n.Num = x.Num
		case x.Kind == api.TNum:
			n.Text = wide(strconv.Itoa(int(x.Num)))
		case x.Kind == api.TStr:
			n.Text = x.Text
		default:
			n.Text = wide(x.Text)
		}
	}
}

// The rest of this file finds out by Earley's way what can follow some tokens: it goes
// all ways at once, so a token can follow if there is any way on with it.

// item is a rule some parts of which were found, from a place on.
type item struct {
	f    *form
	from int
	got  []any
}

// part is the one that is to be found next, and empty if there is none.
func (x item) part() string {
	if len(x.got) == len(x.f.parts) {
		return ""
	}
	return x.f.parts[len(x.got)]
}

func (x item) with(part any) item {
	return item{x.f, x.from, append(slices.Clip(x.got), part)}
}

// key is an item without what its parts are: each of them is one thing alone, since
// there are no two ways to the same.
type key struct {
	f         *form
	from, got int
}

// set are the items at a place.
type set struct {
	l       []item
	known   map[key]bool
	waiting map[string][]item // by their part
	empty   map[string]any    // what consists of no tokens here
}

func (s *set) add(x item) {
	k := key{x.f, x.from, len(x.got)}
	if !s.known[k] {
		s.known[k] = true
		s.l = append(s.l, x)
	}
}

// state is what is known behind some tokens.
type state struct {
	done []*set // ahead of each of them
	now  []item
	sets map[look]*set
}

// look is what the parts without tokens ask of the next token.
type look struct {
	fresh, closes, braces, isElse, omit bool
}

func lookAt(x api.Token) look {
	is := func(s string) bool { return fits(x, s) }
	return look{x.Fresh, is("}") || is("end"), is("{") || is("function"), is("else"), false}
}

// passes tells whether a part without tokens is there; known is false for others.
func (a look) passes(part string) (holds, known bool) {
	switch part {
	case "~":
		return !a.fresh, true
	case "^":
		return !a.braces, true
	case "!else":
		return !a.isElse, true
	case "@":
		return a.omit && (a.fresh || a.closes), true
	case "never":
		return false, true
	}
	return false, false
}

func begin() *state {
	return &state{now: []item{{f: forms["Start"][0]}}}
}

// set is the set ahead of a token at which that is seen.
func (s *state) set(a look) *set {
	if s.sets == nil {
		s.sets = map[look]*set{}
	}
	if s.sets[a] != nil {
		return s.sets[a]
	}
	here := &set{known: map[key]bool{}, waiting: map[string][]item{}, empty: map[string]any{}}
	s.sets[a] = here
	for _, x := range s.now {
		here.add(x)
	}
	for i := 0; i < len(here.l); i++ {
		s.extend(here, here.l[i], a)
	}
	return here
}

// extend adds to a set what follows from one of its items.
func (s *state) extend(here *set, x item, a look) {
	part := x.part()
	if part == "" {
		made := x.f.make(x.got)
		from := here
		if x.from < len(s.done) {
			from = s.done[x.from]
		} else {
			here.empty[x.f.left] = made
		}
		for _, y := range from.waiting[x.f.left] {
			here.add(y.with(made))
		}
		return
	}
	if holds, known := a.passes(part); known {
		if holds {
			here.add(x.with(nil))
		}
		return
	}
	here.waiting[part] = append(here.waiting[part], x)
	for _, f := range forms[part] {
		here.add(item{f: f, from: len(s.done)})
	}
	if made, ok := here.empty[part]; ok {
		here.add(x.with(made))
	}
}

// next is the state behind one more token, or nil if it cannot follow. A semicolon is
// omitted only where nothing else can take the token.
func (s *state) next(x api.Token) *state {
	a := lookAt(x)
	for _, a.omit = range []bool{false, true} {
		here := s.set(a)
		var now []item
		for part, l := range here.waiting {
			if forms[part] == nil && fits(x, part) {
				for _, y := range l {
					now = append(now, y.with(x))
				}
			}
		}
		if now != nil {
			return &state{done: append(slices.Clip(s.done), here), now: now}
		}
	}
	return nil
}

// made is the tree of all tokens, the last of which is the end.
func (s *state) made() api.Node {
	return s.now[0].f.make(s.now[0].got).(api.Node)
}

// read is the tree of some tokens and true, or false and the index of the first one
// that cannot follow.
func read(l []api.Token) (api.Node, int, bool) {
	s := begin()
	for i, x := range l {
		s = s.next(x)
		if s == nil {
			return api.Node{}, i, false
		}
	}
	return s.made(), 0, true
}
