package data_test

import (
	"fmt"
	"math"
	"reflect"
	"runtime/debug"
	"slices"
	"strings"
	"testing"
	"unsafe"

	"credenza/api"
	"credenza/data"
)

var (
	undefined = api.Data{Kind: api.Undef}
	null      = api.Data{Kind: api.Null}
	no        = api.Data{Kind: api.Bool}
	yes       = api.Data{Kind: api.Bool, N: 1}
)

func num(n int64) api.Data {
	return api.Data{Kind: api.Num, N: n}
}

// wide makes a string of units of a text whose runes are the units, without the package's help.
func wide(s string) string {
	var b []byte
	for _, x := range s {
		b = append(b, byte(x>>8), byte(x))
	}
	return string(b)
}

func text(s string) api.Data {
	return api.Data{Kind: api.Text, S: wide(s)}
}

func list(l ...api.Data) api.Data {
	return api.Data{Kind: api.List, L: l}
}

// record makes a Record of keys, which a text holds one letter each, and values.
func record(keys string, l ...api.Data) api.Data {
	v := api.Data{Kind: api.Record, L: l}
	for _, x := range keys {
		v.Keys = append(v.Keys, wide(string(x)))
	}
	return v
}

// nested encloses v so many times, by a List and by a Record in turn, in which
// other values stand before and behind it.
func nested(v api.Data, times int) api.Data {
	for i := range times {
		if i%2 == 0 {
			v = list(null, v, num(int64(i)))
		} else {
			v = record("abc", yes, v, undefined)
		}
	}
	return v
}

// deep encloses v so many times by a list of it alone.
func deep(v api.Data, times int) api.Data {
	for range times {
		v = list(v)
	}
	return v
}

// valid are values that are valid and not too deep, no two of them equal.
func valid() []api.Data {
	l := []api.Data{
		undefined, null, no, yes,
		num(0), num(1), num(-1), num(10), num(api.MaxSafe), num(-api.MaxSafe),
		text(""), text("1"), text("a"), text("ab"), text("ba"), text("null"), text("[]"), text("{}"), text(`"`), text(`\`), text("\n"), text(",\x00é\uffff"),
		{Kind: api.Text, S: "ab"},
		list(), list(undefined), list(null), list(no), list(num(1)), list(text("")), list(text("1")), list(text("1,1")),
		list(num(1), num(1)), list(num(11)), list(num(1), num(2)), list(num(2), num(1)), list(num(1), num(2), num(3)),
		list(list()), list(list(), list()), list(list(list())), list(list(num(1)), num(2)), list(list(num(1), num(2))), list(num(1), list(num(2))),
		list(text(""), text("")), list(text(`","`)),
		record(""), record("a", num(1)), record("b", num(1)), record("a", num(2)), record("a", undefined), record("a", record("")),
		record("ab", num(1), num(2)), record("ba", num(1), num(2)), record("ab", num(2), num(1)), record("ba", num(2), num(1)),
		record("ab", list(num(1)), list(num(2))), record("ab", list(num(1), num(2)), list()), record("ab", list(), list(num(1), num(2))),
		record("a", record("b", num(1))), list(record("a", num(1)), record("b", num(1))), list(record("ab", num(1), num(1))),
		record(`"`, null), record(":", null), record("\x00", null), record("\x01", null),
	}
	l = append(l, api.Data{Kind: api.Record, Keys: []string{""}, L: []api.Data{null}})
	l = append(l, api.Data{Kind: api.Record, Keys: []string{wide("ab")}, L: []api.Data{num(1)}})
	return append(l, nested(num(1), 7), nested(num(2), 7), nested(num(1), 19), deep(list(), 19), deep(null, 19), deep(list(), 18))
}

// fields are values with every choice of each field, most of them not valid.
func fields() []api.Data {
	var all []api.Data
	for _, kind := range []int{api.Undef, api.Null, api.Bool, api.Num, api.Text, api.List, api.Record, api.Record + 1, 8, -1, math.MaxInt, math.MinInt} {
		for _, n := range []int64{0, 1, 2, -1, api.MaxSafe, api.MaxSafe + 1, -api.MaxSafe, -api.MaxSafe - 1, math.MaxInt64, math.MinInt64} {
			for _, s := range []string{"", "\x00a", "a", "\x00a\x00"} {
				for _, keys := range [][]string{nil, {}, {""}, {"\x00a"}, {"a"}, {"\x00a", "\x00b"}, {"\x00a", "\x00a"}, {"\x00a", "b"}, {"\x00b", "\x00a", "\x00b"}} {
					for _, l := range [][]api.Data{nil, {}, {yes}, {num(1), null}, {null, null, null}, {{Kind: 9}}, {null, {N: 1}}} {
						all = append(all, api.Data{Kind: kind, N: n, S: s, Keys: keys, L: l})
					}
				}
			}
		}
	}
	return all
}

// isValid reports what the chapter says of a value, word by word.
func isValid(v api.Data) bool {
	is := func(kinds ...int) bool { return slices.Contains(kinds, v.Kind) }
	switch {
	case !is(api.Undef, api.Null, api.Bool, api.Num, api.Text, api.List, api.Record),
		is(api.Bool) && v.N != 0 && v.N != 1,
		is(api.Num) && (v.N > api.MaxSafe || v.N < -api.MaxSafe),
		!is(api.Bool, api.Num) && v.N != 0,
		is(api.Text) && len(v.S)%2 != 0,
		!is(api.Text) && v.S != "",
		!is(api.List, api.Record) && len(v.L) > 0,
		!is(api.Record) && len(v.Keys) > 0,
		is(api.Record) && len(v.Keys) != len(v.L):
		return false
	}
	for i, key := range v.Keys {
		if len(key)%2 != 0 || slices.Contains(v.Keys[:i], key) {
			return false
		}
	}
	return !slices.ContainsFunc(v.L, func(w api.Data) bool { return !isValid(w) })
}

// fresh is Copy without the package's help; empty slices become nil.
func fresh(v api.Data) api.Data {
	w := api.Data{Kind: v.Kind, N: v.N, S: strings.Clone(v.S)}
	for _, key := range v.Keys {
		w.Keys = append(w.Keys, strings.Clone(key))
	}
	for _, element := range v.L {
		w.L = append(w.L, fresh(element))
	}
	return w
}

// equal is Same by other means.
func equal(a, b api.Data) bool {
	return reflect.DeepEqual(fresh(a), fresh(b))
}

// withoutMuchStack runs f with so small a stack that recursion into a deep value ends the test.
func withoutMuchStack(f func()) {
	defer debug.SetMaxStack(debug.SetMaxStack(1 << 20))
	f()
}

func wantCheck(t *testing.T, v api.Data, want api.Errno) {
	t.Helper()
	if got := data.Check(v); got != want {
		t.Errorf("Check(%.200s): got %d, want %d", fmt.Sprint(v), got, want)
	}
}

// P3.1

func TestCheckOfFields(t *testing.T) {
	count := 0
	for _, v := range fields() {
		want := api.ErrData
		if isValid(v) {
			want = api.OK
			count++
		}
		wantCheck(t, v, want)
		for _, w := range []api.Data{list(v), list(v, null), list(null, v), record("a", v), record("ab", null, v), list(list(), record("a", list(v)))} {
			wantCheck(t, w, want)
		}
	}
	if count < 20 {
		t.Errorf("only %d of the values are valid", count)
	}
}

func TestCheckOfValid(t *testing.T) {
	for _, v := range valid() {
		wantCheck(t, v, api.OK)
	}
}

func TestCheckOfDepth(t *testing.T) {
	for times := range 40 {
		want := api.OK
		if times > 19 {
			want = api.ErrDeep
		}
		for _, v := range []api.Data{null, text("a"), list(), record("")} {
			wantCheck(t, deep(v, times), want)
			wantCheck(t, nested(v, times), want)
		}
		// A depth of one is that of a value without elements only.
		if times > 18 {
			want = api.ErrDeep
		}
		wantCheck(t, list(null, deep(null, times), null), want)
		wantCheck(t, record("ab", list(null), deep(null, times)), want)
		wantCheck(t, deep(list(null, null), times), want)
	}
}

func TestCheckOfDeepInvalid(t *testing.T) {
	wrong := []api.Data{{Kind: 7}, {N: 1}, num(api.MaxSafe + 1), {Kind: api.Text, S: "a"}, record("aa", null, null), {Kind: api.Null, L: []api.Data{null}}}
	for _, v := range wrong {
		for times := range 40 {
			wantCheck(t, deep(v, times), api.ErrData)
			wantCheck(t, nested(v, times), api.ErrData)
			// Too deep before or behind what is not valid.
			wantCheck(t, list(deep(null, times), v), api.ErrData)
			wantCheck(t, list(v, deep(null, times)), api.ErrData)
			wantCheck(t, record("ab", deep(v, times), deep(null, 30)), api.ErrData)
		}
	}
}

func TestCheckOfKeys(t *testing.T) {
	l := make([]api.Data, 3000)
	v := api.Data{Kind: api.Record, L: l}
	for i := range l {
		v.Keys = append(v.Keys, string([]byte{byte(i >> 8), byte(i)}))
	}
	wantCheck(t, v, api.OK)
	v.Keys[0] = v.Keys[2999]
	wantCheck(t, v, api.ErrData)
	v.Keys[0] = "a"
	wantCheck(t, v, api.ErrData)
	// The same keys in different records.
	wantCheck(t, list(record("ab", null, null), record("ab", null, null)), api.OK)
	wantCheck(t, record("a", record("a", record("a", null))), api.OK)
}

// P3.2

func TestSameOfValid(t *testing.T) {
	all := valid()
	for i, a := range all {
		for j, b := range all {
			if got := data.Same(a, fresh(b)); got != (i == j) {
				t.Errorf("Same(%v, %v): got %v", a, b, got)
			}
		}
	}
}

func TestSameOfFields(t *testing.T) {
	all := fields()
	for i, a := range all {
		for _, b := range []api.Data{a, all[(i+1)%len(all)], all[(i+7)%len(all)], all[(i+63)%len(all)], all[(i+252)%len(all)], all[(i+2520)%len(all)]} {
			want := equal(a, b)
			if got := data.Same(a, b); got != want {
				t.Fatalf("Same(%v, %v): got %v", a, b, got)
			}
			if got := data.Same(list(null, a), list(null, b)); got != want {
				t.Fatalf("Same of lists of %v and %v: got %v", a, b, got)
			}
			if got := data.Same(nested(a, 2), nested(b, 2)); got != want {
				t.Fatalf("Same of nested %v and %v: got %v", a, b, got)
			}
		}
	}
}

func TestSameOfInvalid(t *testing.T) {
	for i, x := range []struct {
		a, b api.Data
		want bool
	}{
		{api.Data{Kind: 7}, api.Data{Kind: 7}, true},
		{api.Data{Kind: 7}, api.Data{Kind: 8}, false},
		{api.Data{N: 1}, api.Data{}, false},
		{api.Data{S: "a"}, api.Data{}, false},
		{api.Data{S: "a"}, api.Data{S: "a"}, true},
		{api.Data{Keys: []string{}, L: []api.Data{}}, api.Data{}, true},
		{api.Data{Keys: []string{""}}, api.Data{}, false},
		{api.Data{Keys: []string{"ab"}}, api.Data{Keys: []string{"a", "b"}}, false},
		{api.Data{Keys: []string{"a", "b"}}, api.Data{Keys: []string{"b", "a"}}, false},
		{api.Data{Keys: []string{"a"}}, api.Data{Keys: []string{"a", "a"}}, false},
		{api.Data{Keys: []string{"a", "a"}}, api.Data{Keys: []string{"a", "a"}}, true},
		{api.Data{L: []api.Data{{}}}, api.Data{}, false},
		{api.Data{L: []api.Data{{}, {}}}, api.Data{L: []api.Data{{}}}, false},
		{api.Data{L: []api.Data{{N: 7}}}, api.Data{L: []api.Data{{N: 8}}}, false},
		{api.Data{L: []api.Data{{N: 7}}}, api.Data{L: []api.Data{{N: 7}}}, true},
		{deep(num(1), 30), deep(num(1), 30), true},
		{deep(num(1), 30), deep(num(2), 30), false},
		{deep(num(1), 30), deep(num(1), 29), false},
		// The same values in another shape.
		{list(list(null), list()), list(list(), list(null)), false},
		{list(list(null), list(null, null)), list(list(null, null), list(null)), false},
		{list(list(list(null), null)), list(list(null, list(null))), false},
	} {
		if got := data.Same(x.a, x.b); got != x.want {
			t.Errorf("%d: Same(%v, %v): got %v", i, x.a, x.b, got)
		}
		if got := data.Same(x.b, x.a); got != x.want {
			t.Errorf("%d: Same(%v, %v): got %v", i, x.b, x.a, got)
		}
	}
}

// sizeOf is Size by its definition.
func sizeOf(v api.Data) int {
	n := 1
	for _, w := range v.L {
		n += sizeOf(w)
	}
	return n
}

func TestSize(t *testing.T) {
	for _, x := range []struct {
		v    api.Data
		want int
	}{
		{api.Data{}, 1},
		{text("abc"), 1},
		{list(), 1},
		{list(null), 2},
		{list(null, null, null), 4},
		{list(list(), list(null), null), 5},
		{record("ab", num(1), list(null, text("x"))), 5},
		{api.Data{Kind: 9, Keys: []string{"a", "b"}}, 1},
		{api.Data{Kind: api.Num, L: []api.Data{{Kind: -1}, {N: 5}}}, 3},
		{deep(null, 50), 51},
		{nested(null, 50), 151},
	} {
		if got := data.Size(x.v); got != x.want {
			t.Errorf("Size(%v): got %d, want %d", x.v, got, x.want)
		}
	}
	doubled := null
	for range 20 {
		doubled = list(doubled, doubled)
	}
	if got := data.Size(doubled); got != 1<<21-1 {
		t.Errorf("Size of a doubled value: got %d", got)
	}
	for _, v := range slices.Concat(valid(), fields()) {
		if got, want := data.Size(list(v, v)), 1+2*sizeOf(v); got != want {
			t.Fatalf("Size of %v twice: got %d, want %d", v, got, want)
		}
	}
}

func TestGet(t *testing.T) {
	v := api.Data{Kind: api.Record, Keys: []string{wide("a"), wide("b"), wide("ab"), ""}, L: []api.Data{num(1), list(num(2)), text("x"), null}}
	twice := api.Data{Kind: 9, Keys: []string{"x", "y", "y", "z", "z"}, L: []api.Data{num(1), num(2), num(3)}}
	for _, x := range []struct {
		v    api.Data
		key  string
		want api.Data
		ok   bool
	}{
		{v, wide("a"), num(1), true},
		{v, wide("b"), list(num(2)), true},
		{v, wide("ab"), text("x"), true},
		{v, "", null, true},
		{v, wide("c"), api.Data{}, false},
		{v, "a", api.Data{}, false},
		{v, wide("a") + "\x00", api.Data{}, false},
		{record("a", undefined), wide("a"), undefined, true},
		{record("a", record("b", num(1))), wide("b"), api.Data{}, false},
		{record(""), "", api.Data{}, false},
		{list(num(1)), "", api.Data{}, false},
		{list(num(1)), wide("0"), api.Data{}, false},
		{api.Data{}, "", api.Data{}, false},
		// Values that are not valid.
		{twice, "x", num(1), true},
		{twice, "y", num(2), true},
		{twice, "z", api.Data{}, false},
		{api.Data{Kind: api.Record, Keys: []string{"z"}}, "z", api.Data{}, false},
		{api.Data{Keys: []string{"a"}, L: []api.Data{{Kind: -3, S: "x"}}}, "a", api.Data{Kind: -3, S: "x"}, true},
		{api.Data{Keys: []string{"a"}, L: []api.Data{deep(null, 30)}}, "a", deep(null, 30), true},
	} {
		if got, ok := data.Get(x.v, x.key); !equal(got, x.want) || ok != x.ok {
			t.Errorf("Get(%v, %q): got %v, %v", x.v, x.key, got, ok)
		}
	}
	for i, key := range v.Keys {
		if got, ok := data.Get(v, key); !ok || !equal(got, v.L[i]) {
			t.Errorf("Get of %q: got %v, %v", key, got, ok)
		}
	}
}

func TestDeepValues(t *testing.T) {
	const times = 100000
	withoutMuchStack(func() {
		a, b := deep(num(1), times), deep(num(1), times)
		if got := data.Check(a); got != api.ErrDeep {
			t.Errorf("Check: got %d", got)
		}
		if got := data.Check(deep(num(api.MaxSafe+1), times)); got != api.ErrData {
			t.Errorf("Check of what is not valid: got %d", got)
		}
		if !data.Same(a, b) || data.Same(a, deep(num(2), times)) || data.Same(a, list(b)) {
			t.Error("Same is wrong")
		}
		if got := data.Size(a); got != times+1 {
			t.Errorf("Size: got %d", got)
		}
		if !data.Same(a, data.Copy(b)) {
			t.Error("the copy differs")
		}
		if s, e := data.Text(a); s != "" || e != api.ErrDeep {
			t.Errorf("Text: got %q, %d", s, e)
		}
		if got, ok := data.Get(api.Data{Keys: []string{"a"}, L: []api.Data{a}}, "a"); !ok || !data.Same(a, got) {
			t.Errorf("Get: got another value, %v", ok)
		}
	})
}

// P3.3

func TestText(t *testing.T) {
	for _, x := range []struct {
		v    api.Data
		want string
	}{
		{undefined, "undefined"},
		{null, "null"},
		{no, "false"},
		{yes, "true"},
		{num(0), "0"},
		{num(7), "7"},
		{num(-7), "-7"},
		{num(1000000), "1000000"},
		{num(api.MaxSafe), "9007199254740991"},
		{num(-api.MaxSafe), "-9007199254740991"},
		{text(""), `""`},
		{text("a b"), `"a b"`},
		{text("\"\\\n\x00\x0b/'é\uffff"), `"\"\\\n\u0000\u000b/'\u00e9\uffff"`},
		{list(), "[]"},
		{list(undefined), "[undefined]"},
		{list(null, yes, num(-1)), "[null,true,-1]"},
		{list(list(), list(list(text("]")), num(1)), text(",")), `[[],[["]"],1],","]`},
		{record(""), "{}"},
		{record("a", num(1)), `{"a":1}`},
		{record("ba", undefined, no), `{"b":undefined,"a":false}`},
		{record("\"é\n", list(), record(""), record("x", null)), `{"\"":[],"\u00e9":{},"\n":{"x":null}}`},
		{record("ab", num(1), list(null, text("x"))), `{"a":1,"b":[null,"x"]}`},
		{api.Data{Kind: api.Record, Keys: []string{"", wide("key")}, L: []api.Data{null, null}}, `{"":null,"key":null}`},
		{api.Data{Kind: api.List, Keys: []string{}, L: []api.Data{}}, "[]"},
		{deep(list(), 19), strings.Repeat("[", 20) + strings.Repeat("]", 20)},
		{deep(num(5), 19), strings.Repeat("[", 19) + "5" + strings.Repeat("]", 19)},
	} {
		if got, e := data.Text(x.v); got != x.want || e != api.OK {
			t.Errorf("Text(%v): got %q, %d, want %q", x.v, got, e, x.want)
		}
	}
}

// written is the text of a value, by other means.
func written(v api.Data) string {
	var parts []string
	switch v.Kind {
	case api.Undef:
		return "undefined"
	case api.Null:
		return "null"
	case api.Bool:
		return []string{"false", "true"}[v.N]
	case api.Num:
		return fmt.Sprint(v.N)
	case api.Text:
		return literal(v.S)
	case api.List:
		for _, w := range v.L {
			parts = append(parts, written(w))
		}
		return "[" + strings.Join(parts, ",") + "]"
	}
	for i, key := range v.Keys {
		parts = append(parts, literal(key)+":"+written(v.L[i]))
	}
	return "{" + strings.Join(parts, ",") + "}"
}

// literal is units.Quote, by other means.
func literal(u string) string {
	s := `"`
	for i := 0; i < len(u); i += 2 {
		x := rune(u[i])<<8 | rune(u[i+1])
		switch at := strings.IndexRune("\b\t\n\f\r\"\\", x); {
		case at >= 0:
			s += `\` + `btnfr"\`[at:at+1]
		case x < 32 || x > 126:
			s += fmt.Sprintf(`\u%04x`, x)
		default:
			s += string(x)
		}
	}
	return s + `"`
}

func TestTextOfAll(t *testing.T) {
	for _, v := range slices.Concat(valid(), fields()) {
		want, wantE := "", data.Check(v)
		if wantE == api.OK {
			want = written(v)
		}
		if got, e := data.Text(v); got != want || e != wantE {
			t.Errorf("Text(%v): got %q, %d, want %q, %d", v, got, e, want, wantE)
		}
	}
}

func TestTextOfWrong(t *testing.T) {
	for _, x := range []struct {
		v    api.Data
		want api.Errno
	}{
		{api.Data{Kind: api.Ref}, api.ErrData},
		{list(null, text("a"), api.Data{N: 1}), api.ErrData},
		{record("aa", null, null), api.ErrData},
		{api.Data{Kind: api.Record, Keys: []string{"\x00a"}}, api.ErrData},
		{api.Data{Kind: api.Record, L: []api.Data{null}}, api.ErrData},
		{deep(null, 20), api.ErrDeep},
		{nested(null, 20), api.ErrDeep},
		{deep(api.Data{Kind: -1}, 30), api.ErrData},
	} {
		if got, e := data.Text(x.v); got != "" || e != x.want {
			t.Errorf("Text(%v): got %q, %d, want %d", x.v, got, e, x.want)
		}
	}
}

// P3.4

func TestTextsDiffer(t *testing.T) {
	all := valid()
	for _, a := range all {
		s, e := data.Text(a)
		for _, b := range all {
			u, f := data.Text(fresh(b))
			if e != api.OK || f != api.OK || (s == u) != data.Same(a, b) || data.Same(a, b) != equal(a, b) {
				t.Errorf("%v and %v have the texts %q and %q", a, b, s, u)
			}
		}
	}
}

func TestCopy(t *testing.T) {
	for _, v := range slices.Concat(valid(), fields(), []api.Data{nested(null, 50), deep(list(), 50)}) {
		c := data.Copy(v)
		if !equal(c, v) || !data.Same(c, v) {
			t.Errorf("Copy(%v): got %v", v, c)
		}
	}
}

// R2 and R3

// memory returns where the bytes, the keys and the values of v stand, up to their capacities.
func memory(v api.Data) []uintptr {
	var at []uintptr
	span := func(start unsafe.Pointer, size uintptr) {
		for i := range size {
			at = append(at, uintptr(start)+i)
		}
	}
	span(unsafe.Pointer(unsafe.StringData(v.S)), uintptr(len(v.S)))
	span(unsafe.Pointer(unsafe.SliceData(v.Keys)), uintptr(cap(v.Keys))*unsafe.Sizeof(""))
	span(unsafe.Pointer(unsafe.SliceData(v.L)), uintptr(cap(v.L))*unsafe.Sizeof(v))
	for _, key := range v.Keys {
		span(unsafe.Pointer(unsafe.StringData(key)), uintptr(len(key)))
	}
	for _, w := range v.L {
		at = append(at, memory(w)...)
	}
	return at
}

func wantApart(t *testing.T, a, b api.Data) {
	t.Helper()
	taken := map[uintptr]bool{}
	for _, at := range memory(a) {
		taken[at] = true
	}
	if slices.ContainsFunc(memory(b), func(at uintptr) bool { return taken[at] }) {
		t.Errorf("%v and %v share memory", a, b)
	}
}

// shared is a value in which the same text and the same list stand several times.
func shared() api.Data {
	s := strings.Clone("\x00a\x00b")
	l := list(api.Data{Kind: api.Text, S: s}, list(null))
	return api.Data{Kind: api.Record, Keys: []string{s, "\x00c", ""}, L: []api.Data{l, l, {Kind: 9, S: s, Keys: []string{s}, L: l.L[1:]}}}
}

func TestCopiesShareNothing(t *testing.T) {
	for _, v := range append(valid(), shared(), nested(shared(), 25)) {
		was := fresh(v)
		first, second := data.Copy(v), data.Copy(v)
		wantApart(t, v, first)
		wantApart(t, first, second)
		if !equal(v, was) {
			t.Errorf("Copy changed its argument %v to %v", was, v)
		}
	}
	c := data.Copy(shared())
	wantApart(t, c.L[0], c.L[1])
	wantApart(t, c.L[1], c.L[2])
	c.L[0].L[1].L[0] = num(1)
	c.L[2].Keys[0] = "x"
	if !equal(c.L[1], shared().L[1]) || c.Keys[0] != shared().Keys[0] {
		t.Errorf("a part of a copy changed with another one: %v", c)
	}
}

func TestGotValuesShareNothing(t *testing.T) {
	v := record("ab", null, shared())
	was := fresh(v)
	first, _ := data.Get(v, wide("b"))
	second, _ := data.Get(v, wide("b"))
	wantApart(t, v, first)
	wantApart(t, first, second)
	first.L[0].L[0] = num(5)
	first.Keys[0] = "x"
	if !equal(v, was) || !equal(second, shared()) {
		t.Errorf("another value changed with what Get returned: %v, %v", v, second)
	}
	v.L[1].L[1] = num(6)
	if !equal(second, shared()) {
		t.Errorf("what Get returned changed with the argument: %v", second)
	}
}

func TestArgumentsStay(t *testing.T) {
	for _, v := range slices.Concat(valid(), fields(), []api.Data{shared(), nested(null, 30)}) {
		was := fresh(v)
		data.Check(v)
		data.Same(v, was)
		data.Same(was, v)
		data.Size(v)
		data.Text(v)
		data.Get(v, "\x00a")
		if !equal(v, was) {
			t.Errorf("an argument was changed from %v to %v", was, v)
		}
	}
}

func TestWhatIsBehindASliceStays(t *testing.T) {
	l := []api.Data{num(1), num(2), num(3)}
	keys := []string{"\x00a", "\x00b", "\x00c"}
	v := api.Data{Kind: api.Record, Keys: keys[:1], L: l[:1]}
	data.Check(v)
	data.Same(v, v)
	data.Size(v)
	data.Text(v)
	c, g := data.Copy(v), data.Copy(v)
	_ = append(c.L, null)
	_ = append(c.Keys, "x")
	if !slices.Equal(keys, []string{"\x00a", "\x00b", "\x00c"}) || !equal(list(l...), list(num(1), num(2), num(3))) || !equal(g, record("a", num(1))) {
		t.Errorf("what stands behind a slice was changed: %v, %v, %v", keys, l, g)
	}
}

func TestEmptyIsNil(t *testing.T) {
	empty := api.Data{Keys: []string{}, L: []api.Data{}}
	for kind := api.Undef; kind <= api.Record; kind++ {
		a, b := empty, api.Data{Kind: kind}
		a.Kind = kind
		s, e := data.Text(a)
		u, f := data.Text(b)
		if data.Check(a) != api.OK || !data.Same(a, b) || !data.Same(b, a) || data.Size(a) != 1 || s != u || e != f {
			t.Errorf("an empty slice and none differ for the kind %d", kind)
		}
	}
}
