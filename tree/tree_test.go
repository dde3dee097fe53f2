package tree_test

import (
	"math"
	"math/rand/v2"
	"regexp"
	"runtime/debug"
	"slices"
	"strings"
	"testing"

	"credenza/api"
	"credenza/tree"
)

// words are the reserved words, as chapter 6 lists them.
const words = " break case catch class const continue debugger default delete do else enum export extends false finally for function if implements import in instanceof interface let new null package private protected public return static super switch this throw true try typeof var void while with yield "

// form is what the chapter says of a Kind: what its Name and its Num may be, what
// fields it has besides, and its children, one letter each.
type form struct {
	name, num string
	text      bool
	names     bool
	l         string
}

// forms has the letters of classes for children.
var forms = map[int]form{
	api.ENum:      {num: "safe"},
	api.EStr:      {text: true},
	api.EName:     {name: "name"},
	api.EThis:     {},
	api.ENull:     {},
	api.EBool:     {num: "bit"},
	api.EArray:    {l: "e*"},
	api.EObject:   {l: "p*"},
	api.EProp:     {text: true, l: "e"},
	api.EFunc:     {name: "name or none", names: true, l: "s*"},
	api.EMember:   {name: "identifier", l: "e"},
	api.EIndex:    {l: "ee"},
	api.ECall:     {l: "e+"},
	api.ENew:      {l: "e+"},
	api.EUnary:    {name: "- + ! typeof delete void", l: "e"},
	api.EUpdate:   {name: "++ --", num: "bit", l: "t"},
	api.EBinary:   {name: "+ - * / % < > <= >= == != === !== in instanceof", l: "ee"},
	api.ELogic:    {name: "&& ||", l: "ee"},
	api.ECond:     {l: "eee"},
	api.EAssign:   {name: "= += -= *= /= %=", l: "te"},
	api.EComma:    {l: "ee"},
	api.SVar:      {l: "d+"},
	api.SDecl:     {name: "name", l: "e?"},
	api.SExpr:     {l: "e"},
	api.SBlock:    {l: "i*"},
	api.SIf:       {l: "ebb?"},
	api.SWhile:    {l: "eb"},
	api.SDo:       {l: "be"},
	api.SFor:      {l: "(v|e|0)(e|0)(e|0)b"},
	api.SForIn:    {l: "(t|v)eb"},
	api.SBreak:    {name: "name or none"},
	api.SContinue: {name: "name or none"},
	api.SReturn:   {l: "e?"},
	api.SThrow:    {l: "e"},
	api.STry:      {name: "caught", l: "b(bb|b0|0b)"},
	api.SSwitch:   {l: "ec*"},
	api.SCase:     {l: "(e|0)i*"},
	api.SLabel:    {name: "name", l: "i"},
	api.SFunc:     {name: "name", names: true, l: "s*"},
	api.SEmpty:    {},
	api.Program:   {l: "s*"},
	api.Empty:     {},
}

// classes are the Kinds that a letter of a form stands for.
var classes = map[rune][]int{
	'e': {1, 2, 3, 4, 5, 6, 7, 8, 10, 11, 12, 13, 14, 15, 16, 17, 18, 19, 20, 21},
	't': {api.EName, api.EMember, api.EIndex},
	'p': {api.EProp},
	's': {22, 24, 25, 26, 27, 28, 29, 30, 31, 32, 33, 34, 35, 36, 38, 39, 40},
	'i': {22, 24, 25, 26, 27, 28, 29, 30, 31, 32, 33, 34, 35, 36, 38, 40},
	'b': {api.SBlock},
	'd': {api.SDecl},
	'v': {api.SVar},
	'c': {api.SCase},
	'0': {api.Empty},
}

// letter stands for a Kind in the expressions of shapes.
func letter(kind int) string {
	if kind < 0 || kind > 99 {
		kind = 99
	}
	return string(rune(0x1000 + kind))
}

// shapes are the regular expressions for the children of each Kind.
var shapes = func() map[int]*regexp.Regexp {
	all := map[int]*regexp.Regexp{}
	for kind, f := range forms {
		var b strings.Builder
		for _, x := range f.l {
			if class, ok := classes[x]; ok {
				b.WriteString("[")
				for _, k := range class {
					b.WriteString(letter(k))
				}
				b.WriteString("]")
			} else {
				b.WriteRune(x)
			}
		}
		all[kind] = regexp.MustCompile(`\A(?:` + b.String() + `)\z`)
	}
	return all
}()

var identForm = regexp.MustCompile(`\A[A-Za-z_$][A-Za-z0-9_$]{0,31}\z`)

func isName(s string) bool {
	return identForm.MatchString(s) && !strings.Contains(words, " "+s+" ")
}

// isValid reports whether a tree is valid, by the forms.
func isValid(n api.Node) bool {
	return n.Kind == api.Program && fits(n)
}

func fits(n api.Node) bool {
	f, ok := forms[n.Kind]
	return ok && nameFits(n, f.name) && restFits(n, f) && childrenFit(n)
}

func nameFits(n api.Node, rule string) bool {
	switch rule {
	case "":
		return n.Name == ""
	case "name":
		return isName(n.Name)
	case "name or none":
		return n.Name == "" || isName(n.Name)
	case "identifier":
		return identForm.MatchString(n.Name)
	case "caught":
		if len(n.L) > 1 && n.L[1].Kind == api.SBlock {
			return isName(n.Name)
		}
		return n.Name == ""
	}
	return slices.Contains(strings.Fields(rule), n.Name)
}

func restFits(n api.Node, f form) bool {
	switch {
	case f.num == "" && n.Num != 0,
		f.num == "bit" && n.Num != 0 && n.Num != 1,
		f.num == "safe" && (n.Num < 0 || n.Num > 9007199254740991),
		!f.text && n.Text != "",
		len(n.Text)%2 != 0,
		!f.names && len(n.Names) > 0:
		return false
	}
	return !slices.ContainsFunc(n.Names, func(s string) bool { return !isName(s) })
}

func childrenFit(n api.Node) bool {
	var b strings.Builder
	defaults := 0
	for _, x := range n.L {
		b.WriteString(letter(x.Kind))
		if x.Kind == api.SCase && len(x.L) > 0 && x.L[0].Kind == api.Empty {
			defaults++
		}
	}
	if !shapes[n.Kind].MatchString(b.String()) || n.Kind == api.SSwitch && defaults > 1 {
		return false
	}
	if n.Kind == api.SForIn && n.L[0].Kind == api.SVar && (len(n.L[0].L) != 1 || len(n.L[0].L[0].L) > 0) {
		return false
	}
	return !slices.ContainsFunc(n.L, func(x api.Node) bool { return !fits(x) })
}

// depth and size are Deep and Size by their definitions.
func depth(n api.Node) int {
	d := 0
	for _, x := range n.L {
		d = max(d, depth(x))
	}
	return d + 1
}

func size(n api.Node) int {
	s := 1
	for _, x := range n.L {
		s += size(x)
	}
	return s
}

// wantedCheck is what Check is to return.
func wantedCheck(n api.Node) api.Errno {
	switch {
	case !isValid(n):
		return api.ErrTree
	case depth(n) > 64:
		return api.ErrDeep
	}
	return api.OK
}

func wantCheck(t *testing.T, n api.Node, want api.Errno) {
	t.Helper()
	if got := tree.Check(n); got != want {
		t.Errorf("Check(%.400v): got %d, want %d", n, got, want)
	}
}

func node(kind int, l ...api.Node) api.Node {
	return api.Node{Kind: kind, L: l}
}

// named is a node with a Name: a word, an operator.
func named(kind int, s string, l ...api.Node) api.Node {
	return api.Node{Kind: kind, Name: s, L: l}
}

func name(s string) api.Node {
	return api.Node{Kind: api.EName, Name: s}
}

func num(n int64) api.Node {
	return api.Node{Kind: api.ENum, Num: n}
}

// wide makes units of a text whose runes they are.
func wide(s string) string {
	var b []byte
	for _, x := range s {
		b = append(b, byte(x>>8), byte(x))
	}
	return string(b)
}

func str(s string) api.Node {
	return api.Node{Kind: api.EStr, Text: wide(s)}
}

func boolean(n int64) api.Node {
	return api.Node{Kind: api.EBool, Num: n}
}

func prop(s string, v api.Node) api.Node {
	return api.Node{Kind: api.EProp, Text: wide(s), L: []api.Node{v}}
}

func update(op string, ahead int64, target api.Node) api.Node {
	return api.Node{Kind: api.EUpdate, Name: op, Num: ahead, L: []api.Node{target}}
}

// function is an EFunc or an SFunc whose parameters have the letters of a text as
// names.
func function(kind int, s, parameters string, l ...api.Node) api.Node {
	n := named(kind, s, l...)
	for _, x := range parameters {
		n.Names = append(n.Names, string(x))
	}
	return n
}

func member(n api.Node, s string) api.Node {
	return named(api.EMember, s, n)
}

func program(l ...api.Node) api.Node {
	return node(api.Program, l...)
}

// say is a program of one expression.
func say(n api.Node) api.Node {
	return program(node(api.SExpr, n))
}

var (
	null  = node(api.ENull)
	empty = node(api.Empty)
	block = node(api.SBlock)
)

// sample is a valid node of that Kind, and one with that Kind alone if there is none.
func sample(kind int) api.Node {
	a, x := name("a"), node(api.SExpr, name("x"))
	switch kind {
	case api.ENum:
		return num(5)
	case api.EStr:
		return str("s")
	case api.EName:
		return name("n")
	case api.EArray:
		return node(api.EArray, num(1), a)
	case api.EObject:
		return node(api.EObject, prop("p", num(1)), prop("q", a))
	case api.EProp:
		return prop("p", num(1))
	case api.EFunc:
		return function(api.EFunc, "", "ab", x)
	case api.EMember:
		return member(a, "in")
	case api.EUnary:
		return named(api.EUnary, "-", a)
	case api.EUpdate:
		return update("++", 0, a)
	case api.EBinary:
		return named(api.EBinary, "in", a, num(2))
	case api.ELogic:
		return named(api.ELogic, "||", a, num(2))
	case api.EAssign:
		return named(api.EAssign, "=", a, num(2))
	case api.ECond:
		return node(api.ECond, a, num(1), num(2))
	case api.EIndex, api.EComma, api.ECall, api.ENew:
		return node(kind, a, num(1))
	}
	return statement(kind)
}

// statement is sample for the other Kinds.
func statement(kind int) api.Node {
	a, x := name("a"), node(api.SExpr, name("x"))
	full := node(api.SBlock, x)
	switch kind {
	case api.SVar:
		return node(api.SVar, named(api.SDecl, "v"))
	case api.SDecl:
		return named(api.SDecl, "d", num(1))
	case api.SExpr, api.SReturn, api.SThrow:
		return node(kind, a)
	case api.SIf:
		return node(api.SIf, a, full, block)
	case api.SWhile:
		return node(api.SWhile, a, full)
	case api.SDo:
		return node(api.SDo, full, a)
	case api.SFor:
		return node(api.SFor, node(api.SVar, named(api.SDecl, "i", num(0))), a, empty, full)
	case api.SForIn:
		return node(api.SForIn, a, name("o"), full)
	case api.STry:
		return named(api.STry, "e", full, block, empty)
	case api.SSwitch:
		return node(api.SSwitch, a, node(api.SCase, num(1), x), node(api.SCase, empty))
	case api.SCase:
		return node(api.SCase, num(1), x)
	case api.SLabel:
		return named(api.SLabel, "l", x)
	case api.SFunc:
		return function(api.SFunc, "f", "a", x)
	case api.SBlock, api.Program:
		return node(kind, x)
	}
	return node(kind)
}

// within is a program in which n stands where a node of its Kind may stand.
func within(n api.Node) api.Node {
	switch n.Kind {
	case api.Program:
		return n
	case api.EProp:
		return say(node(api.EObject, n))
	case api.SDecl:
		return program(node(api.SVar, n))
	case api.SCase:
		return program(node(api.SSwitch, num(1), n))
	case api.Empty:
		return program(node(api.SFor, n, num(1), num(2), block))
	}
	if n.Kind <= api.EComma {
		return say(n)
	}
	return program(n)
}

// kinds are all Kinds, and some others.
func kinds() []int {
	l := []int{math.MinInt, -1, 43, 44, 1 << 40, math.MaxInt}
	for kind := range 43 {
		l = append(l, kind)
	}
	return l
}

// everything is a program in which nodes of all Kinds stand.
func everything() api.Node {
	var l, values []api.Node
	for kind := range 43 {
		if kind == api.Empty || kind == api.Program || kind == 0 {
			continue
		}
		if n := within(sample(kind)); kind <= api.EComma {
			values = append(values, n.L[0].L[0])
		} else {
			l = append(l, n.L...)
		}
	}
	l = append(l, node(api.SExpr, node(api.EArray, values...)))
	l = append(l, function(api.SFunc, "g", "", function(api.SFunc, "h", "xyz", node(api.SReturn), node(api.SReturn, function(api.EFunc, "k", "", function(api.SFunc, "m", ""))))))
	return program(l...)
}

// fresh is a copy of n that shares no memory with it.
func fresh(n api.Node) api.Node {
	n.Name, n.Text = strings.Clone(n.Name), strings.Clone(n.Text)
	names, l := n.Names, n.L
	n.Names, n.L = nil, nil
	for _, s := range names {
		n.Names = append(n.Names, strings.Clone(s))
	}
	for _, x := range l {
		n.L = append(n.L, fresh(x))
	}
	return n
}

// equal is Same by its definition.
func equal(a, b api.Node) bool {
	if a.Kind != b.Kind || a.Name != b.Name || a.Num != b.Num || a.Text != b.Text || len(a.Names) != len(b.Names) || len(a.L) != len(b.L) {
		return false
	}
	for i, s := range a.Names {
		if s != b.Names[i] {
			return false
		}
	}
	for i, x := range a.L {
		if !equal(x, b.L[i]) {
			return false
		}
	}
	return true
}

// mutants calls f for each tree that differs from n in one of its nodes.
func mutants(n api.Node, f func(api.Node)) {
	changed(n, f)
	for i, x := range n.L {
		mutants(x, func(y api.Node) {
			m := n
			m.L = slices.Clone(n.L)
			m.L[i] = y
			f(m)
		})
	}
}

// changed calls f for n with each change of itself.
func changed(n api.Node, f func(api.Node)) {
	was := n
	for _, n.Kind = range kinds() {
		f(n)
	}
	n.Kind = was.Kind
	for _, n.Name = range []string{"", "a", "b", "in", "while", "1", "+", "-", "*", "==", "<", "&&", "||", "++", "--", "=", "+=", "!", "void", was.Name + "z"} {
		f(n)
	}
	n.Name = was.Name
	for _, n.Num = range []int64{0, 1, 2, -1, was.Num + 1, was.Num - 1, -was.Num, api.MaxSafe + 1} {
		f(n)
	}
	n.Num = was.Num
	for _, n.Text = range []string{"", "\x00a", "\x00b", "a", was.Text + "\x00a"} {
		f(n)
	}
	n.Text = was.Text
	for _, n.Names = range [][]string{nil, {"a"}, {"b", "a"}, {"a", "b"}, {"a", "a"}, {"in"}, {""}} {
		f(n)
	}
	n.Names = was.Names
	for i, x := range was.L {
		for _, l := range [][]api.Node{nil, {x, x}, x.L, {node(api.SBlock, x)}, {name("z")}} {
			n.L = slices.Replace(slices.Clone(was.L), i, i+1, l...)
			f(n)
		}
		n.L = slices.Clone(was.L)
		n.L[0], n.L[i] = n.L[i], n.L[0]
		f(n)
	}
	for _, x := range []api.Node{empty, block, num(1), name("a"), prop("p", num(3)), statement(api.SCase), statement(api.SFunc), node(api.SEmpty)} {
		n.L = append(slices.Clone(was.L), x)
		f(n)
	}
}

// deep has so many nodes one in the other, the innermost of which is n.
func deep(n api.Node, times int) api.Node {
	for range times {
		n = node(api.SBlock, n)
	}
	return n
}

// P7.1: Check

func TestCheckOfSamples(t *testing.T) {
	for _, kind := range kinds() {
		n := sample(kind)
		_, known := forms[kind]
		if isValid(within(n)) != known {
			t.Errorf("the sample of the Kind %d is wrong", kind)
		}
		wantCheck(t, within(n), wantedCheck(within(n)))
		// A program is the only root.
		if kind != api.Program {
			wantCheck(t, n, api.ErrTree)
		}
		// What stands where it may not.
		for _, outer := range []api.Node{program(n), say(n), program(node(api.SVar, n)), program(node(api.SBlock, n)), say(node(api.EObject, n)), say(node(api.EArray, n)), program(node(api.SSwitch, num(1), n))} {
			wantCheck(t, outer, wantedCheck(outer))
		}
	}
	wantCheck(t, api.Node{}, api.ErrTree)
	wantCheck(t, program(), api.OK)
	wantCheck(t, program(program()), api.ErrTree)
	wantCheck(t, program(empty), api.ErrTree)
	wantCheck(t, everything(), api.OK)
}

func TestCheckOfFields(t *testing.T) {
	names := strings.Fields("a Z $ _ a1 1a a-b eval arguments undefined of é while in null typeof this let ++ -- + - * / % < > <= >= == != === !== instanceof && || & | ! delete void = += -= *= /= %= ** << ~ ? , . [] :")
	names = append(names, "", " ", "a b", " a", "a ", "\x00", strings.Repeat("n", 31), strings.Repeat("n", 32), strings.Repeat("n", 33), "+ -", "- +")
	nums := []int64{0, 1, 2, -1, api.MaxSafe, api.MaxSafe + 1, math.MinInt64, math.MaxInt64}
	lists := [][]string{nil, {}, {"a"}, {"a", "a"}, {"a", "b", "c"}, {""}, {"in"}, {"a", "1"}, {"eval"}, {"a b"}, {strings.Repeat("n", 33)}}
	for _, kind := range kinds() {
		n := sample(kind)
		valid := 0
		for _, n.Name = range append(names, n.Name) {
			for _, n.Num = range nums {
				for _, n.Text = range []string{"", "\x00a", "a", "\x00a\x00", "ab"} {
					for _, n.Names = range lists {
						want := wantedCheck(within(n))
						wantCheck(t, within(n), want)
						if want == api.OK {
							valid++
						}
					}
				}
			}
		}
		if _, known := forms[kind]; known != (valid > 0) {
			t.Errorf("the Kind %d has %d valid nodes", kind, valid)
		}
	}
}

func TestCheckOfLongNames(t *testing.T) {
	for _, s := range []string{strings.Repeat("n", 32), strings.Repeat("n", 33), strings.Repeat("n", 4096)} {
		for _, kind := range []int{api.EName, api.EMember, api.EFunc, api.SDecl, api.SBreak, api.SContinue, api.SLabel, api.SFunc, api.STry} {
			n := sample(kind)
			n.Name = s
			want := api.OK
			if len(s) > 32 {
				want = api.ErrTree
			}
			wantCheck(t, within(n), want)
		}
	}
}

func TestCheckOfChildren(t *testing.T) {
	var some []api.Node
	for _, kind := range []int{api.ENum, api.EName, api.EProp, api.SVar, api.SDecl, api.SExpr, api.SBlock, api.SCase, api.SFunc, api.Program, api.Empty} {
		some = append(some, sample(kind))
	}
	some = append(some, node(api.SCase, empty), node(api.SVar, named(api.SDecl, "v", num(1))), node(api.SVar, named(api.SDecl, "v"), named(api.SDecl, "w")))
	lists := [][]api.Node{{}}
	for from, most := 0, 0; most < 4; most++ {
		for to := len(lists); from < to; from++ {
			for _, x := range some {
				lists = append(lists, append(slices.Clone(lists[from]), x))
			}
		}
	}
	for _, kind := range kinds() {
		n := sample(kind)
		for _, l := range lists {
			if len(l) == 4 && kind != api.SFor && kind != api.SSwitch && kind != api.STry {
				continue
			}
			n.L = l
			wantCheck(t, within(n), wantedCheck(within(n)))
			if kind == api.STry {
				m := n
				m.Name = ""
				wantCheck(t, within(m), wantedCheck(within(m)))
			}
		}
	}
}

// TestCheckOfEachChild lets a node of every Kind stand at every place of every node.
func TestCheckOfEachChild(t *testing.T) {
	for _, kind := range kinds() {
		n := sample(kind)
		for i := range len(n.L) + 1 {
			for _, inner := range kinds() {
				for width := range 2 {
					m := n
					m.L = slices.Replace(slices.Clone(n.L), i, min(i+width, len(n.L)), sample(inner))
					wantCheck(t, within(m), wantedCheck(within(m)))
					m.Name = ""
					wantCheck(t, within(m), wantedCheck(within(m)))
				}
			}
		}
	}
}

func TestCheckOfPlaces(t *testing.T) {
	decl, value := named(api.SDecl, "v"), named(api.SDecl, "v", num(1))
	def, one := node(api.SCase, empty), node(api.SCase, num(1))
	for i, x := range []struct {
		n    api.Node
		want api.Errno
	}{
		{node(api.SForIn, node(api.SVar, decl), name("o"), block), api.OK},
		{node(api.SForIn, node(api.SVar, value), name("o"), block), api.ErrTree},
		{node(api.SForIn, node(api.SVar, decl, decl), name("o"), block), api.ErrTree},
		{node(api.SForIn, node(api.SVar, decl, value), name("o"), block), api.ErrTree},
		{node(api.SForIn, node(api.SVar), name("o"), block), api.ErrTree},
		{node(api.SForIn, node(api.SVar, name("a")), name("o"), block), api.ErrTree},
		{node(api.SForIn, node(api.EIndex, num(1), num(2)), name("o"), block), api.OK},
		{node(api.SForIn, num(1), name("o"), block), api.ErrTree},
		{node(api.SForIn, empty, name("o"), block), api.ErrTree},
		{node(api.SFor, node(api.SVar, decl, value), empty, empty, block), api.OK},
		{node(api.SFor, empty, empty, empty, block), api.OK},
		{node(api.SFor, empty, node(api.SVar, decl), empty, block), api.ErrTree},
		{node(api.SFor, empty, empty, node(api.SVar, decl), block), api.ErrTree},
		{node(api.SSwitch, num(1)), api.OK},
		{node(api.SSwitch, num(1), def), api.OK},
		{node(api.SSwitch, num(1), one, def, one), api.OK},
		{node(api.SSwitch, num(1), def, def), api.ErrTree},
		{node(api.SSwitch, num(1), def, one, one, def), api.ErrTree},
		{node(api.SSwitch, num(1), def, node(api.SCase)), api.ErrTree},
		{node(api.SSwitch, num(1), node(api.SCase), node(api.SCase)), api.ErrTree},
		{node(api.SSwitch, num(1), def, node(api.SCase, node(api.EArray))), api.OK},
		{node(api.SSwitch, def), api.ErrTree},
		{node(api.STry, block, empty, block), api.OK},
		{node(api.STry, block, empty, empty), api.ErrTree},
		{node(api.STry, block, block, empty), api.ErrTree},
		{named(api.STry, "e", block, block, empty), api.OK},
		{named(api.STry, "e", block, block, block), api.OK},
		{named(api.STry, "e", block, empty, block), api.ErrTree},
		{named(api.STry, "in", block, block, block), api.ErrTree},
		{named(api.STry, "e", block, block), api.ErrTree},
		{named(api.STry, "e", block), api.ErrTree},
		{node(api.STry), api.ErrTree},
		{named(api.SLabel, "l", sample(api.SFunc)), api.ErrTree},
		{named(api.SLabel, "l", named(api.SLabel, "l", node(api.SEmpty))), api.OK},
		{node(api.SBlock, sample(api.SFunc)), api.ErrTree},
		{node(api.SIf, num(1), node(api.SEmpty)), api.ErrTree},
		{node(api.SExpr, named(api.EAssign, "=", num(1), num(2))), api.ErrTree},
		{node(api.SExpr, named(api.EAssign, "=", member(num(1), "if"), num(2))), api.OK},
		{node(api.SExpr, update("++", 1, num(1))), api.ErrTree},
		{node(api.SExpr, update("++", 2, name("a"))), api.ErrTree},
		{node(api.SExpr, function(api.EFunc, "", "", sample(api.SFunc))), api.OK},
		{node(api.SExpr, named(api.EBinary, "&&", num(1), num(2))), api.ErrTree},
		{node(api.SExpr, named(api.ELogic, "+", num(1), num(2))), api.ErrTree},
		{node(api.SExpr, named(api.EUnary, "++", name("a"))), api.ErrTree},
	} {
		if wantedCheck(program(x.n)) != x.want {
			t.Errorf("%d: %v is thought to be wrong", i, x.n)
		}
		wantCheck(t, program(x.n), x.want)
		wantCheck(t, program(sample(api.SVar), x.n, sample(api.SIf)), x.want)
		wantCheck(t, program(function(api.SFunc, "f", "", x.n)), x.want)
	}
}

func TestCheckOfMutants(t *testing.T) {
	count := map[api.Errno]int{}
	mutants(everything(), func(n api.Node) {
		want := wantedCheck(n)
		wantCheck(t, n, want)
		count[want]++
	})
	if count[api.OK] < 1000 || count[api.ErrTree] < 5000 {
		t.Errorf("the trees are too much alike: %v", count)
	}
}

// steps are the ways in which a node may stand in another one of its sort.
func steps() (expressions, statements []func(api.Node) api.Node) {
	for kind := range 43 {
		n := sample(kind)
		for i, x := range n.L {
			step := func(y api.Node) api.Node {
				m := n
				m.L = slices.Clone(n.L)
				m.L[i] = y
				return m
			}
			isTarget := kind == api.EUpdate || kind == api.EAssign && i == 0
			if kind <= api.EComma && kind != api.EProp && x.Kind <= api.EComma && x.Kind != api.EProp && !isTarget {
				expressions = append(expressions, step)
			}
			if kind > api.EComma && x.Kind == api.SBlock {
				statements = append(statements, func(y api.Node) api.Node { return step(node(api.SBlock, y)) })
			}
		}
	}
	for _, kind := range []int{api.SBlock, api.SLabel} {
		statements = append(statements, func(y api.Node) api.Node { return named(kind, statement(kind).Name, y) })
	}
	return expressions, statements
}

func TestCheckOfDepth(t *testing.T) {
	expressions, statements := steps()
	for _, step := range expressions {
		n := name("x")
		for range 70 {
			wantCheck(t, say(n), wantedCheck(say(n)))
			n = step(n)
		}
		wantCheck(t, say(n), api.ErrDeep)
	}
	for _, step := range statements {
		n := node(api.SEmpty)
		for range 70 {
			wantCheck(t, program(n), wantedCheck(program(n)))
			n = step(n)
		}
		wantCheck(t, program(n), api.ErrDeep)
	}
	wantCheck(t, program(deep(block, 62)), api.OK)
	wantCheck(t, program(deep(block, 63)), api.ErrDeep)
	wantCheck(t, program(deep(sample(api.SEmpty), 62), deep(block, 63), sample(api.SEmpty)), api.ErrDeep)
	// A wide tree is not deep.
	wantCheck(t, program(slices.Repeat([]api.Node{node(api.SEmpty)}, 100000)...), api.OK)
}

func TestCheckOfDeepInvalid(t *testing.T) {
	for _, wrong := range []api.Node{{}, {Kind: 43}, empty, program(), sample(api.SFunc), name("a"), {Kind: api.SEmpty, Num: 1}, {Kind: api.SBreak, Name: "in"}, node(api.SIf)} {
		for times := range 90 {
			wantCheck(t, program(deep(wrong, times+1)), api.ErrTree)
			// Too deep ahead of what is wrong, or behind it.
			wantCheck(t, program(deep(node(api.SEmpty), times), node(api.SBlock, wrong)), api.ErrTree)
			wantCheck(t, program(node(api.SBlock, wrong), deep(node(api.SEmpty), times)), api.ErrTree)
		}
	}
	wantCheck(t, deep(block, 100), api.ErrTree)
	wantCheck(t, node(0, deep(block, 100)), api.ErrTree)
}

// P7.1: Deep, Size, Same and IsTarget

func TestDeepAndSize(t *testing.T) {
	for _, x := range []struct {
		n          api.Node
		deep, size int
	}{
		{api.Node{}, 1, 1},
		{program(), 1, 1},
		{api.Node{Kind: 99, Names: []string{"a", "b"}}, 1, 1},
		{node(-1, api.Node{}), 2, 2},
		{node(-1, api.Node{}, node(7, api.Node{}), api.Node{}), 3, 5},
		{node(7, node(7, node(7)), node(7)), 3, 4},
		{node(7, node(7), node(7, node(7, node(7)), node(7))), 4, 6},
		{say(num(1)), 3, 3},
		{deep(null, 50), 51, 51},
		{deep(null, 500), 501, 501},
		{program(deep(null, 500), null, deep(null, 499)), 502, 1003},
	} {
		if got := tree.Deep(x.n); got != x.deep {
			t.Errorf("Deep(%.200v): got %d, want %d", x.n, got, x.deep)
		}
		if got := tree.Size(x.n); got != x.size {
			t.Errorf("Size(%.200v): got %d, want %d", x.n, got, x.size)
		}
	}
	doubled := null
	for range 20 {
		doubled = node(0, doubled, doubled)
	}
	if d, s := tree.Deep(doubled), tree.Size(doubled); d != 21 || s != 1<<21-1 {
		t.Errorf("a doubled tree: got %d, %d", d, s)
	}
	mutants(everything(), func(n api.Node) {
		if d, s := tree.Deep(n), tree.Size(n); d != depth(n) || s != size(n) {
			t.Fatalf("%v: got %d, %d", n, d, s)
		}
	})
	r := rand.New(rand.NewPCG(1, 1))
	for range 2000 {
		n := bare(r, 12)
		if d, s := tree.Deep(n), tree.Size(n); d != depth(n) || s != size(n) {
			t.Fatalf("%v: got %d, %d", n, d, s)
		}
	}
}

// bare is a random tree, of which only its shape matters.
func bare(r *rand.Rand, most int) api.Node {
	n := node(r.IntN(3))
	for most > 0 && r.IntN(5) > 1 && len(n.L) < 4 {
		n.L = append(n.L, bare(r, most-1))
	}
	return n
}

func TestSame(t *testing.T) {
	s := strings.Clone("name")
	for i, x := range []struct {
		a, b api.Node
		want bool
	}{
		{api.Node{}, api.Node{}, true},
		{api.Node{Kind: 1}, api.Node{Kind: 2}, false},
		{api.Node{Kind: -5}, api.Node{Kind: -5}, true},
		{api.Node{Name: "name"}, api.Node{Name: s}, true},
		{api.Node{Name: "a"}, api.Node{}, false},
		{api.Node{Num: 1}, api.Node{}, false},
		{api.Node{Num: math.MinInt64}, api.Node{Num: math.MaxInt64}, false},
		{api.Node{Text: "a"}, api.Node{}, false},
		{api.Node{Text: "a"}, api.Node{Name: "a"}, false},
		{api.Node{Text: "name"}, api.Node{Text: s}, true},
		{api.Node{Names: []string{}, L: []api.Node{}}, api.Node{}, true},
		{api.Node{Names: []string{""}}, api.Node{}, false},
		{api.Node{Names: []string{"ab"}}, api.Node{Names: []string{"a", "b"}}, false},
		{api.Node{Names: []string{"a", "b"}}, api.Node{Names: []string{"b", "a"}}, false},
		{api.Node{Names: []string{"a"}}, api.Node{Names: []string{"a", "a"}}, false},
		{api.Node{Names: []string{"name"}}, api.Node{Names: []string{s}}, true},
		{node(0, api.Node{}), api.Node{}, false},
		{node(0, api.Node{}, api.Node{}), node(0, api.Node{}), false},
		{node(0, api.Node{Num: 7}), node(0, api.Node{Num: 8}), false},
		{node(0, api.Node{Num: 7}), node(0, api.Node{Num: 7}), true},
		{node(0, num(1), num(2)), node(0, num(2), num(1)), false},
		{node(0, num(1), num(2)), node(0, num(1), num(2), num(3)), false},
		{deep(num(1), 100), deep(num(1), 100), true},
		{deep(num(1), 100), deep(num(2), 100), false},
		{deep(num(1), 100), deep(num(1), 99), false},
		// The same nodes in another shape.
		{node(7, node(7, null), node(7)), node(7, node(7), node(7, null)), false},
		{node(7, node(7, null), node(7, null, null)), node(7, node(7, null, null), node(7, null)), false},
		{node(7, node(7, node(7, null), null)), node(7, node(7, null, node(7, null))), false},
		{node(7, node(7, num(1)), num(2)), node(7, node(7, num(1), num(2))), false},
		{node(7, node(7, num(1)), node(7, num(2))), node(7, node(7, num(2)), node(7, num(1))), false},
	} {
		if got := tree.Same(x.a, x.b); got != x.want {
			t.Errorf("%d: Same(%.200v, %.200v): got %v", i, x.a, x.b, got)
		}
		if got := tree.Same(x.b, x.a); got != x.want {
			t.Errorf("%d: Same(%.200v, %.200v): got %v", i, x.b, x.a, got)
		}
	}
}

func TestSameOfMutants(t *testing.T) {
	whole := everything()
	other := fresh(whole)
	same := 0
	mutants(whole, func(n api.Node) {
		want := equal(n, other)
		if got := tree.Same(n, other); got != want {
			t.Fatalf("Same(%v, %v): got %v", n, other, got)
		}
		if got := tree.Same(other, n); got != want {
			t.Fatalf("Same(%v, %v): got %v", other, n, got)
		}
		if !tree.Same(n, fresh(n)) {
			t.Fatalf("%v is not the same as its copy", n)
		}
		if want {
			same++
		}
	})
	if same < 100 {
		t.Errorf("only %d trees were the same", same)
	}
}

func TestSameOfPairs(t *testing.T) {
	r := rand.New(rand.NewPCG(1, 2))
	var all []api.Node
	for range 400 {
		all = append(all, bare(r, 3))
	}
	same := 0
	for _, a := range all {
		for _, b := range all {
			want := equal(a, b)
			if got := tree.Same(a, b); got != want {
				t.Fatalf("Same(%v, %v): got %v", a, b, got)
			}
			if want {
				same++
			}
		}
	}
	if same < 600 {
		t.Errorf("only %d pairs are the same", same)
	}
}

func TestIsTarget(t *testing.T) {
	for _, kind := range kinds() {
		want := kind == api.EName || kind == api.EMember || kind == api.EIndex
		for _, n := range []api.Node{sample(kind), node(kind), {Kind: kind, Name: "in", Num: -1, Text: "a", Names: []string{""}, L: []api.Node{empty}}, node(kind, name("a")), node(kind, program())} {
			if got := tree.IsTarget(n); got != want {
				t.Errorf("IsTarget(%v): got %v", n, got)
			}
		}
	}
}

// TestDeepTrees: a tree that is not valid may be deeper than a stack can be.
func TestDeepTrees(t *testing.T) {
	defer debug.SetMaxStack(debug.SetMaxStack(1 << 20))
	const times = 100000
	a, b := program(deep(num(1), times)), program(deep(num(1), times))
	if got := tree.Check(a); got != api.ErrTree {
		t.Errorf("Check: got %d", got)
	}
	if got := tree.Check(program(deep(block, times))); got != api.ErrDeep {
		t.Errorf("Check of a valid one: got %d", got)
	}
	if s, e := tree.Text(program(deep(block, times))); s != "" || e != api.ErrDeep {
		t.Errorf("Text: got %q, %d", s, e)
	}
	if !tree.Same(a, b) || tree.Same(a, program(deep(num(2), times))) || tree.Same(a, program(deep(num(1), times+1))) {
		t.Error("Same is wrong")
	}
	if d, s := tree.Deep(a), tree.Size(a); d != times+2 || s != times+2 {
		t.Errorf("got %d, %d", d, s)
	}
}

// R2 and R3

func TestArgumentsStay(t *testing.T) {
	whole := everything()
	mutants(whole, func(n api.Node) {
		was := fresh(n)
		tree.Check(n)
		tree.Text(n)
		tree.Deep(n)
		tree.Size(n)
		tree.Same(n, whole)
		tree.Same(whole, n)
		if !equal(n, was) {
			t.Fatalf("an argument was changed from %v to %v", was, n)
		}
	})
	l := []api.Node{statement(api.SVar), statement(api.SWhile), statement(api.SIf)}
	was := fresh(program(l...))
	n := program(l[:1]...)
	tree.Check(n)
	tree.Text(n)
	tree.Deep(n)
	tree.Size(n)
	tree.Same(n, n)
	if !equal(program(l...), was) {
		t.Errorf("what stands behind a slice was changed to %v", l)
	}
}

func TestEmptyIsNil(t *testing.T) {
	for _, kind := range kinds() {
		a := api.Node{Kind: kind, Names: []string{}, L: []api.Node{}}
		b := api.Node{Kind: kind}
		s, e := tree.Text(within(a))
		u, f := tree.Text(within(b))
		if tree.Check(within(a)) != tree.Check(within(b)) || !tree.Same(a, b) || !tree.Same(b, a) || tree.Size(a) != 1 || tree.Deep(a) != 1 || s != u || e != f {
			t.Errorf("an empty slice and none differ for the Kind %d", kind)
		}
	}
}
