package codec_test

import (
	"bytes"
	"encoding/binary"
	"fmt"
	"math"
	"math/rand/v2"
	"reflect"
	"slices"
	"strings"
	"testing"
	"unsafe"

	"credenza/api"
	"credenza/codec"
	"credenza/data"
)

var (
	undefined = api.Data{Kind: api.Undef}
	null      = api.Data{Kind: api.Null}
	no        = api.Data{Kind: api.Bool}
	yes       = api.Data{Kind: api.Bool, N: 1}
)

// tails are bytes that may follow an encoding.
var tails = [][]byte{nil, {0}, {1}, {4}, {8}, {9}, {127}, {128}, {255}, bytes.Repeat([]byte{255}, 400), bytes.Repeat([]byte{0}, 400)}

func num(n int64) api.Data {
	return api.Data{Kind: api.Num, N: n}
}

// wide makes a string of units of a text whose runes are the units.
func wide(s string) string {
	var b []byte
	for _, x := range s {
		b = append(b, byte(x>>8), byte(x))
	}
	return string(b)
}

func text(s string) api.Data {
	return api.Data{Kind: api.Text, S: wide(s)}
}

func list(l ...api.Data) api.Data {
	return api.Data{Kind: api.List, L: l}
}

// record makes a Record of keys, which a text holds one letter each, and values.
func record(keys string, l ...api.Data) api.Data {
	v := api.Data{Kind: api.Record, L: l}
	for _, x := range keys {
		v.Keys = append(v.Keys, wide(string(x)))
	}
	return v
}

// deep encloses v so many times by a list of it alone.
func deep(v api.Data, times int) api.Data {
	for range times {
		v = list(v)
	}
	return v
}

// nested encloses v so many times, by a List and by a Record in turn, in which
// other values stand before and behind it.
func nested(v api.Data, times int) api.Data {
	for i := range times {
		if i%2 == 0 {
			v = list(null, v, num(int64(i)))
		} else {
			v = record("abc", yes, v, undefined)
		}
	}
	return v
}

// many is a list or a record of so many values.
func many(kind, n int) api.Data {
	v := api.Data{Kind: kind}
	for i := range n {
		v.L = append(v.L, num(int64(i)))
		if kind == api.Record {
			v.Keys = append(v.Keys, string([]byte{byte(i >> 8), byte(i)}))
		}
	}
	return v
}

// integers are those around each power of two, and others between them.
func integers() []int64 {
	l := []int64{0, 1, -1, 300, -300, -301, 10, api.MaxSafe, -api.MaxSafe}
	for i := range 53 {
		p := int64(1) << i
		l = append(l, p-1, p, min(p+1, api.MaxSafe), p+p/3, -p, 1-p, max(-p-1, -api.MaxSafe))
	}
	r := rand.New(rand.NewPCG(1, 2))
	for range 500 {
		n := r.Int64N(api.MaxSafe) >> r.IntN(53)
		l = append(l, n, -n)
	}
	return l
}

// valid are values that are valid and not too deep.
func valid() []api.Data {
	l := []api.Data{
		undefined, null, no, yes,
		text(""), text("a"), text("ab"), text("ba"), text("\x00"), text("\n\"é\uffff"), {Kind: api.Text, S: "ab"},
		text(strings.Repeat("x", 63)), text(strings.Repeat("x", 64)), text(strings.Repeat("é", 8191)), text(strings.Repeat("é", 8192)),
		list(), list(undefined), list(null), list(yes), list(num(1), num(-1)), list(list()), list(list(), list(list(text("a")))),
		list(list(num(1)), num(2)), list(list(num(1), num(2))), list(record("a", null), record("a", null)),
		record(""), record("a", null), record("ab", num(1), num(2)), record("ba", num(1), num(2)), record("a", record("a", record("ab", yes, list(no)))),
		record("é\x00", list(record("")), text("")),
		{Kind: api.Record, Keys: []string{"", wide("key"), wide("ke"), wide(strings.Repeat("k", 64))}, L: []api.Data{null, list(), num(-5), yes}},
		nested(num(1), 7), nested(text("x"), 19), deep(list(), 19), deep(null, 19), deep(record(""), 19),
		many(api.List, 127), many(api.List, 128), many(api.List, 300), many(api.Record, 127), many(api.Record, 128), many(api.Record, 300),
	}
	for _, n := range integers() {
		l = append(l, num(n))
	}
	r := rand.New(rand.NewPCG(3, 4))
	for range 300 {
		l = append(l, random(r, 5))
	}
	return l
}

// random is a valid value of at most that depth.
func random(r *rand.Rand, depth int) api.Data {
	kinds := 7
	if depth == 1 {
		kinds = 5
	}
	v := api.Data{Kind: r.IntN(kinds)}
	switch v.Kind {
	case api.Bool:
		v.N = r.Int64N(2)
	case api.Num:
		v.N = (r.Int64N(2*api.MaxSafe+1) - api.MaxSafe) >> r.IntN(53)
	case api.Text:
		v.S = strings.Repeat(wide(string(rune('a'+r.IntN(400)))), r.IntN(4))
	case api.List, api.Record:
		for i := range r.IntN(5) {
			v.L = append(v.L, random(r, depth-1))
			if v.Kind == api.Record {
				v.Keys = append(v.Keys, strings.Repeat("\x00a", i))
			}
		}
	}
	return v
}

// wrong are values that data.Check refuses.
func wrong() []api.Data {
	return []api.Data{
		{Kind: 7}, {Kind: 8}, {Kind: -1}, {Kind: math.MaxInt}, {N: 1}, {Kind: api.Null, N: -1}, {Kind: api.Bool, N: 2}, {Kind: api.Bool, N: -1},
		num(api.MaxSafe + 1), num(-api.MaxSafe - 1), num(math.MaxInt64), num(math.MinInt64),
		{Kind: api.Text, S: "a"}, {Kind: api.Text, N: 1}, {Kind: api.Null, S: "ab"}, {Kind: api.List, S: "ab"}, {Kind: api.Record, N: 1},
		{Kind: api.List, Keys: []string{""}, L: []api.Data{null}}, {Kind: api.Null, L: []api.Data{null}}, {Kind: api.Text, Keys: []string{""}},
		{Kind: api.Record, L: []api.Data{null}}, {Kind: api.Record, Keys: []string{""}}, {Kind: api.Record, Keys: []string{"a"}, L: []api.Data{null}},
		record("aa", null, null), record("aba", null, null, null), list(null, api.Data{Kind: 9}), record("a", list(num(api.MaxSafe+1))),
		deep(null, 20), deep(list(), 20), deep(null, 21), nested(null, 20), nested(null, 30), deep(null, 1000),
		deep(api.Data{N: 1}, 30), list(deep(null, 30), api.Data{N: 1}),
	}
}

func then(parts ...[]byte) []byte {
	return slices.Concat(parts...)
}

func repeated(n int, value ...byte) []byte {
	return bytes.Repeat(value, n)
}

func uvarint(n uint64) []byte {
	return binary.AppendUvarint(nil, n)
}

func encodedText(s string) []byte {
	return then(uvarint(uint64(len(s))), []byte(s))
}

// encoded is the encoding of a valid value, without the package's help.
func encoded(v api.Data) []byte {
	switch v.Kind {
	case api.Undef, api.Null:
		return []byte{byte(v.Kind)}
	case api.Bool:
		return []byte{"\x02\x03"[v.N]}
	case api.Num:
		if v.N >= 0 {
			return then([]byte{4}, uvarint(uint64(v.N)))
		}
		return then([]byte{5}, uvarint(uint64(-v.N)-1))
	case api.Text:
		return then([]byte{6}, encodedText(v.S))
	}
	b := then([]byte{byte(v.Kind) + 2}, uvarint(uint64(len(v.L))))
	for i, w := range v.L {
		if v.Kind == api.Record {
			b = append(b, encodedText(v.Keys[i])...)
		}
		b = append(b, encoded(w)...)
	}
	return b
}

// script is the chapter's reading by other means: no panic, no recursion, the
// places of values that are not finished on a stack of its own.
type script struct {
	b    []byte
	at   int
	open []*unfinished
}

type unfinished struct {
	v    api.Data
	left uint64
}

func (s *script) uvarint() (uint64, api.Errno) {
	end := slices.IndexFunc(s.b[s.at:], func(c byte) bool { return c < 128 }) + 1
	switch {
	case end == 0 && len(s.b)-s.at < 10:
		return 0, api.ErrShort
	case end == 0 || end > 10:
		return 0, api.ErrBytes
	}
	n, size := binary.Uvarint(s.b[s.at : s.at+end])
	if size != end || !bytes.Equal(uvarint(n), s.b[s.at:s.at+end]) {
		return 0, api.ErrBytes
	}
	s.at += size
	return n, api.OK
}

func (s *script) text() (string, api.Errno) {
	n, e := s.uvarint()
	switch {
	case e != api.OK:
		return "", e
	case n > 2147483647:
		return "", api.ErrBytes
	case n > uint64(len(s.b)-s.at):
		return "", api.ErrShort
	case n%2 != 0:
		return "", api.ErrBytes
	}
	s.at += int(n)
	return string(s.b[s.at-int(n) : s.at]), api.OK
}

// next reads what begins at the place, and reports whether that is whole.
func (s *script) next() (api.Data, bool, api.Errno) {
	if s.at == len(s.b) {
		return api.Data{}, false, api.ErrShort
	}
	c := s.b[s.at]
	s.at++
	if len(s.open) >= 20 {
		return api.Data{}, false, api.ErrDeep
	}
	if c > 8 {
		return api.Data{}, false, api.ErrBytes
	}
	v := api.Data{Kind: []int{api.Undef, api.Null, api.Bool, api.Bool, api.Num, api.Num, api.Text, api.List, api.Record}[c]}
	if c == 3 {
		v.N = 1
	}
	if c < 4 {
		return v, true, api.OK
	}
	if c == 6 {
		t, e := s.text()
		v.S = t
		return v, true, e
	}
	n, e := s.uvarint()
	if e != api.OK {
		return api.Data{}, false, e
	}
	if c == 4 && n > api.MaxSafe || c == 5 && n >= api.MaxSafe {
		return api.Data{}, false, api.ErrBytes
	}
	switch c {
	case 4:
		v.N = int64(n)
	case 5:
		v.N = -int64(n) - 1
	default:
		s.open = append(s.open, &unfinished{v, n})
		return api.Data{}, false, api.OK
	}
	return v, true, api.OK
}

// close puts v into what is not finished, and returns it once nothing is open.
func (s *script) close(v api.Data, whole bool) (api.Data, bool, api.Errno) {
	for {
		if whole && len(s.open) == 0 {
			return v, true, api.OK
		}
		last := s.open[len(s.open)-1]
		if whole {
			last.v.L = append(last.v.L, v)
			last.left--
		}
		if last.left > 0 {
			break
		}
		v, whole = last.v, true
		s.open = s.open[:len(s.open)-1]
	}
	last := s.open[len(s.open)-1]
	if last.v.Kind == api.Record {
		key, e := s.text()
		if e != api.OK {
			return api.Data{}, false, e
		}
		if slices.Contains(last.v.Keys, key) {
			return api.Data{}, false, api.ErrBytes
		}
		last.v.Keys = append(last.v.Keys, key)
	}
	return api.Data{}, false, api.OK
}

func readByScript(b []byte) (api.Data, int, api.Errno) {
	s := script{b: b}
	for {
		v, whole, e := s.next()
		if e == api.OK {
			v, whole, e = s.close(v, whole)
		}
		if e != api.OK {
			return api.Data{}, 0, e
		}
		if whole {
			return v, s.at, api.OK
		}
	}
}

// normal is v with nil for slices that are empty.
func normal(v api.Data) api.Data {
	w := api.Data{Kind: v.Kind, N: v.N, S: v.S, Keys: append([]string(nil), v.Keys...)}
	for _, element := range v.L {
		w.L = append(w.L, normal(element))
	}
	return w
}

func equal(a, b api.Data) bool {
	return reflect.DeepEqual(normal(a), normal(b))
}

func wantEncoded(t *testing.T, v api.Data, want []byte, wantE api.Errno) {
	t.Helper()
	if got, e := codec.Encode(v); !bytes.Equal(got, want) || e != wantE {
		t.Errorf("Encode(%.200s): got %.80v, %d, want %.80v, %d", fmt.Sprint(v), got, e, want, wantE)
	}
}

// wantRead holds Read and Decode to what Read should answer.
func wantRead(t *testing.T, b []byte, v api.Data, size int, e api.Errno) {
	t.Helper()
	gotV, gotSize, gotE := codec.Read(b)
	if !equal(gotV, v) || gotSize != size || gotE != e {
		t.Errorf("Read(%.80v): got %.200s, %d, %d, want %.200s, %d, %d", b, fmt.Sprint(gotV), gotSize, gotE, fmt.Sprint(v), size, e)
	}
	if e == api.OK && size < len(b) {
		v, e = api.Data{}, api.ErrBytes
	}
	gotV, gotE = codec.Decode(b)
	if !equal(gotV, v) || gotE != e {
		t.Errorf("Decode(%.80v): got %.200s, %d, want %.200s, %d", b, fmt.Sprint(gotV), gotE, fmt.Sprint(v), e)
	}
}

func wantByScript(t *testing.T, b []byte) {
	t.Helper()
	v, size, e := readByScript(b)
	wantRead(t, b, v, size, e)
}

// P4.1

// examples are values and their encodings.
func examples() map[string]api.Data {
	return map[string]api.Data{
		"\x00":                                 undefined,
		"\x01":                                 null,
		"\x02":                                 no,
		"\x03":                                 yes,
		"\x04\x00":                             num(0),
		"\x04\x01":                             num(1),
		"\x04\x7f":                             num(127),
		"\x04\x80\x01":                         num(128),
		"\x04\xac\x02":                         num(300),
		"\x04\xff\xff\xff\xff\xff\xff\xff\x0f": num(api.MaxSafe),
		"\x05\x00":                             num(-1),
		"\x05\x01":                             num(-2),
		"\x05\x7f":                             num(-128),
		"\x05\x80\x01":                         num(-129),
		"\x05\xfe\xff\xff\xff\xff\xff\xff\x0f": num(-api.MaxSafe),
		"\x06\x00":                             text(""),
		"\x06\x02\x00a":                        text("a"),
		"\x06\x04\x00a\xff\xff":                text("a\uffff"),
		"\x07\x00":                             list(),
		"\x07\x01\x00":                         list(undefined),
		"\x07\x02\x04\x01\x05\x00":             list(num(1), num(-1)),
		"\x07\x02\x07\x00\x07\x01\x03":         list(list(), list(yes)),
		"\x08\x00":                             record(""),
		"\x08\x01\x00\x01":                     {Kind: api.Record, Keys: []string{""}, L: []api.Data{null}},
		"\x08\x02\x02\x00b\x04\x01\x02\x00a\x04\x02": record("ba", num(1), num(2)),
		"\x08\x01\x02\x00a\x08\x01\x02\x00a\x07\x00": record("a", record("a", list())),
	}
}

func TestEncode(t *testing.T) {
	for b, v := range examples() {
		wantEncoded(t, v, []byte(b), api.OK)
	}
	for _, v := range valid() {
		wantEncoded(t, v, encoded(v), api.OK)
	}
	wantEncoded(t, api.Data{Kind: api.List, Keys: []string{}, L: []api.Data{}}, []byte{7, 0}, api.OK)
	wantEncoded(t, api.Data{Kind: api.Record, Keys: []string{}, L: []api.Data{}}, []byte{8, 0}, api.OK)
	wantEncoded(t, api.Data{Kind: api.Num, Keys: []string{}, L: []api.Data{}}, []byte{4, 0}, api.OK)
}

func TestEncodeOfWrong(t *testing.T) {
	for _, v := range wrong() {
		e := data.Check(v)
		if e == api.OK {
			t.Fatalf("%v is not wrong", v)
		}
		wantEncoded(t, v, nil, e)
		wantEncoded(t, list(null, v), nil, data.Check(list(null, v)))
		wantEncoded(t, record("ab", v, yes), nil, data.Check(record("ab", v, yes)))
	}
	wantEncoded(t, api.Data{N: 1}, nil, api.ErrData)
	wantEncoded(t, deep(null, 20), nil, api.ErrDeep)
	wantEncoded(t, deep(api.Data{N: 1}, 20), nil, api.ErrData)
}

func TestEncodingsDiffer(t *testing.T) {
	values := map[string]api.Data{}
	for _, v := range valid() {
		b, e := codec.Encode(v)
		if w, known := values[string(b)]; known && !equal(v, w) || e != api.OK {
			t.Errorf("%v and %v have the encoding %v, %d", v, w, b, e)
		}
		values[string(b)] = v
	}
}

// P4.2 and P4.3

func TestRead(t *testing.T) {
	for b, v := range examples() {
		for _, tail := range tails {
			wantRead(t, then([]byte(b), tail), v, len(b), api.OK)
		}
	}
}

func TestReadOfShort(t *testing.T) {
	for _, b := range []string{
		"", "\x04", "\x05", "\x06", "\x07", "\x08",
		"\x04\x80", "\x05\x80\x80", "\x06\xff", "\x07\xff\xff\xff", "\x08\x80",
		"\x06\x01", "\x06\x02", "\x06\x02a", "\x06\x04abc", "\x06\x03ab",
		"\x06\xff\xff\xff\xff\x07", "\x06\xfe\xff\xff\xff\x07ab",
		"\x07\x01", "\x07\x02\x00", "\x07\x02\x00\x04", "\x07\x01\x07\x01",
		"\x08\x01", "\x08\x01\x01", "\x08\x01\x02a", "\x08\x01\x02ab", "\x08\x01\x00", "\x08\x02\x00\x00", "\x08\x02\x00\x00\x02ab", "\x08\x01\xff\xff\xff\xff\x07",
		// Numbers of elements that no memory would hold.
		"\x07\xff\xff\xff\xff\xff\xff\xff\xff\xff\x01", "\x07\xff\xff\xff\xff\xff\xff\xff\xff\xff\x01\x00\x01\x02\x03",
		"\x08\xff\xff\xff\xff\xff\xff\xff\xff\xff\x01", "\x08\xff\xff\xff\xff\xff\xff\xff\xff\x7f\x00\x00",
		"\x07\x80\x80\x80\x80\x80\x80\x80\x80\x80\x01\x00", "\x07\x80\x80\x80\x80\x10\x07\x80\x80\x80\x80\x10\x07\x80\x80\x80\x80\x10",
	} {
		wantRead(t, []byte(b), api.Data{}, 0, api.ErrShort)
		wantRead(t, []byte("\x07\x01"+b), api.Data{}, 0, api.ErrShort)
		wantRead(t, []byte("\x08\x02\x00\x00\x02ab"+b), api.Data{}, 0, api.ErrShort)
	}
}

func TestReadOfWrongBytes(t *testing.T) {
	wrong := []string{
		// Integers that are none.
		"\x04\x80\x00", "\x05\x80\x00", "\x06\x80\x00", "\x07\x80\x00", "\x08\x80\x00", "\x08\x01\x80\x00", "\x07\x81\x80\x00",
		"\x04" + strings.Repeat("\xff", 9) + "\x02", "\x07" + strings.Repeat("\xff", 9) + "\x02", "\x08" + strings.Repeat("\x80", 10), "\x06" + strings.Repeat("\x80", 9) + "\x00",
		// Numbers that are not safe.
		"\x04" + string(uvarint(api.MaxSafe+1)), "\x04" + string(uvarint(1<<63-1)), "\x04" + string(uvarint(1<<63)), "\x04" + string(uvarint(math.MaxUint64)),
		"\x05" + string(uvarint(api.MaxSafe)), "\x05" + string(uvarint(api.MaxSafe+1)), "\x05" + string(uvarint(1<<63-1)), "\x05" + string(uvarint(1<<63)), "\x05" + string(uvarint(math.MaxUint64)),
		// Texts and keys that are no strings of units, or too long whether or not they are there.
		"\x06\x01a", "\x06\x03abc", "\x08\x01\x01a", "\x08\x01\x03abc\x00", "\x08\x02\x00\x00\x01a\x00",
		"\x06\x80\x80\x80\x80\x08", "\x06\x81\x80\x80\x80\x08ab", "\x08\x01\x80\x80\x80\x80\x08", "\x06" + string(uvarint(math.MaxUint64)),
		// Keys that occurred already, whatever follows.
		"\x08\x02\x00\x00\x00", "\x08\x02\x00\x00\x00\x00", "\x08\x02\x02ab\x00\x02ab", "\x08\x02\x02ab\x00\x02ab\x09", "\x08\x03\x00\x00\x02ab\x00\x00\x00", "\x08\x03\x02ab\x00\x02cd\x00\x02cd",
	}
	for c := 9; c < 256; c++ {
		wrong = append(wrong, string([]byte{byte(c)}), string([]byte{7, 1, byte(c)}), string([]byte{7, 2, 0, byte(c)}), string([]byte{8, 1, 0, byte(c)}))
	}
	for _, b := range wrong {
		for _, tail := range tails {
			wantRead(t, []byte(b+string(tail)), api.Data{}, 0, api.ErrBytes)
			wantRead(t, []byte("\x07\x02\x03"+b+string(tail)), api.Data{}, 0, api.ErrBytes)
			wantRead(t, []byte("\x08\x02\x00\x00\x02ab"+b+string(tail)), api.Data{}, 0, api.ErrBytes)
		}
	}
	// The same key in different records.
	wantRead(t, []byte("\x07\x02\x08\x01\x00\x00\x08\x01\x00\x00"), list(record2(), record2()), 10, api.OK)
}

// record2 is a Record in which the empty key has undefined.
func record2() api.Data {
	return api.Data{Kind: api.Record, Keys: []string{""}, L: []api.Data{undefined}}
}

func TestFirstErrorComesFirst(t *testing.T) {
	for _, x := range []struct {
		b string
		e api.Errno
	}{
		// A wrong byte ahead of the end, and the end ahead of what would be wrong there.
		{"\x07\x05\x09", api.ErrBytes}, {"\x07\x05\x00", api.ErrShort}, {"\x08\x02\x01a", api.ErrBytes}, {"\x08\x02\x03ab", api.ErrShort},
		{"\x06\x03ab", api.ErrShort}, {"\x04\x80\x80\x80\x80\x80\x80\x80\x80\x80", api.ErrShort}, {"\x04\x80\x80\x80\x80\x80\x80\x80\x80", api.ErrShort},
		// A wrong value stands behind its key.
		{"\x08\x01\x01a\x09", api.ErrBytes}, {"\x08\x01\x02a", api.ErrShort}, {"\x08\x02\x00\x09\x00", api.ErrBytes},
		{"\x07\x03\x04" + string(uvarint(api.MaxSafe+1)), api.ErrBytes},
	} {
		wantRead(t, []byte(x.b), api.Data{}, 0, x.e)
	}
}

func TestReadOfDepth(t *testing.T) {
	inner := []api.Data{undefined, yes, num(-5), text("ab"), list(), record("")}
	for _, head := range []string{"\x07\x01", "\x08\x01\x00", "\x08\x01\x02\x00a"} {
		for times := range 40 {
			b := []byte(strings.Repeat(head, times))
			for _, v := range inner {
				if times < 20 {
					wantByScript(t, then(b, encoded(v)))
				} else {
					wantRead(t, then(b, encoded(v)), api.Data{}, 0, api.ErrDeep)
				}
			}
		}
		b := []byte(strings.Repeat(head, 20))
		for c := range 256 {
			// Whatever the byte is, and whatever is missing behind it.
			for _, tail := range tails {
				wantRead(t, then(b, []byte{byte(c)}, tail), api.Data{}, 0, api.ErrDeep)
			}
		}
		// There must be a byte.
		wantRead(t, b, api.Data{}, 0, api.ErrShort)
		// What is too deep or wrong is found in the order of the bytes.
		wantRead(t, then([]byte("\x07\x02\x09"), b, b), api.Data{}, 0, api.ErrBytes)
		wantRead(t, then([]byte("\x07\x02"), b, b, []byte{9}), api.Data{}, 0, api.ErrDeep)
		// What is not nested does not count.
		v, _, _ := readByScript(then([]byte{7, 2}, b[:19*len(head)-len(head)], []byte{0}, b[:19*len(head)-len(head)], []byte{1}))
		wantRead(t, encoded(v), v, len(encoded(v)), api.OK)
	}
	for times := range 20 {
		wantRead(t, encoded(deep(null, times)), deep(null, times), 2*times+1, api.OK)
		wantRead(t, encoded(nested(list(), times)), nested(list(), times), len(encoded(nested(list(), times))), api.OK)
	}
	// A record's key stands ahead of the value that is too deep.
	lists := strings.Repeat("\x07\x01", 19)
	for b, e := range map[string]api.Errno{
		"\x08": api.ErrShort, "\x08\x80\x00": api.ErrBytes, "\x08\x01": api.ErrShort, "\x08\x01\x01a\x00": api.ErrBytes, "\x08\x01\x80\x00": api.ErrBytes,
		"\x08\x01\x02a": api.ErrShort, "\x08\x01\x00": api.ErrShort, "\x08\x01\x00\x00": api.ErrDeep, "\x08\x01\x00\x09": api.ErrDeep,
		"\x07": api.ErrShort, "\x07\x80\x00": api.ErrBytes, "\x07\x01": api.ErrShort, "\x07\x01\x00": api.ErrDeep, "\x07\x02\xff": api.ErrDeep,
	} {
		wantRead(t, []byte(lists+b), api.Data{}, 0, e)
	}
	wantRead(t, []byte(lists+"\x07\x00"), deep(list(), 19), 40, api.OK)
	wantRead(t, []byte(lists+"\x08\x00"), deep(record(""), 19), 40, api.OK)
}

func TestReadOfAllShort(t *testing.T) {
	letters := []byte{0, 1, 2, 3, 4, 5, 6, 7, 8, 9, 127, 128, 255}
	all := [][]byte{nil}
	for from := 0; len(all[from]) < 4; from++ {
		for _, c := range letters {
			all = append(all, then(all[from], []byte{c}))
		}
	}
	heads := []string{"", "\x07\x01", "\x07\x02", "\x08\x01", "\x08\x02\x00\x00", "\x08\x02\x02\x00\x01\x00", strings.Repeat("\x07\x01", 19), strings.Repeat("\x08\x01\x00", 18), "\x04\xff\xff\xff\xff\xff", "\x05\xff\xff\xff\xff\xff", "\x06\xff\xff\xff", "\x07\xff\xff\xff\xff\xff\xff"}
	for _, b := range all {
		for _, head := range heads {
			wantByScript(t, []byte(head+string(b)))
		}
	}
	// All short encodings of records, the letters of which are those of keys.
	letters = []byte{0, 1, 2, 8}
	all = [][]byte{{8, 2}, {8, 3}}
	for from := 0; len(all[from]) < 9; from++ {
		wantByScript(t, all[from])
		for _, c := range letters {
			all = append(all, then(all[from], []byte{c}))
		}
	}
}

func TestReadOfChanged(t *testing.T) {
	r := rand.New(rand.NewPCG(5, 6))
	values := valid()
	errors := map[api.Errno]int{}
	for range 60000 {
		b := encoded(values[r.IntN(len(values))])
		switch r.IntN(3) {
		case 0:
			b = encoded(random(r, 6))
		case 1:
			b = encoded(nested(random(r, 3), 16+r.IntN(4)))
		}
		if len(b) > 400 {
			continue
		}
		for range 1 + r.IntN(3) {
			at := r.IntN(len(b))
			switch c := byte(r.IntN(11)); r.IntN(4) {
			case 0:
				b[at] = c
			case 1:
				b[at] ^= 1 << r.IntN(8)
			case 2:
				b = slices.Insert(b, at, c)
			case 3:
				b = append(slices.Delete(b, at, at+1), c)
			}
		}
		_, _, e := codec.Read(b)
		errors[e]++
		wantByScript(t, b)
	}
	if errors[api.OK] < 1000 || errors[api.ErrShort] < 1000 || errors[api.ErrBytes] < 1000 || errors[api.ErrDeep] < 10 {
		t.Errorf("the changes are too much alike: %v", errors)
	}
}

func TestDecodeOfWhatIsLeft(t *testing.T) {
	for _, v := range valid() {
		b := encoded(v)
		for _, tail := range tails[1:] {
			if got, e := codec.Decode(then(b, tail)); !equal(got, api.Data{}) || e != api.ErrBytes {
				t.Fatalf("Decode of %.200s and more: got %v, %d", fmt.Sprint(v), got, e)
			}
		}
	}
	for b, want := range map[string]api.Errno{"": api.ErrShort, "\x05\x00\x00": api.ErrBytes, "\x09": api.ErrBytes, "\x07\x02\x00": api.ErrShort, strings.Repeat("\x07\x01", 20) + "\x00": api.ErrDeep, strings.Repeat("\x07\x01", 20) + "\x00\x00": api.ErrDeep, "\x07\x00\x07": api.ErrBytes} {
		if got, e := codec.Decode([]byte(b)); !equal(got, api.Data{}) || e != want {
			t.Errorf("Decode(%q): got %v, %d, want %d", b, got, e, want)
		}
	}
}

// P4.4

func TestEncodedIsDecoded(t *testing.T) {
	for _, v := range valid() {
		b, e := codec.Encode(v)
		if e != api.OK {
			t.Fatalf("Encode(%v): got %d", v, e)
		}
		wantRead(t, b, v, len(b), api.OK)
		for _, tail := range tails {
			wantRead(t, then(b, tail), v, len(b), api.OK)
		}
		for i := range min(len(b), 1000) {
			wantRead(t, b[:i], api.Data{}, 0, api.ErrShort)
		}
		wantRead(t, b[:len(b)-1], api.Data{}, 0, api.ErrShort)
	}
}

func TestDecodedIsEncoded(t *testing.T) {
	letters := []byte{0, 1, 2, 3, 4, 5, 6, 7, 8, 9, 127, 128}
	all := [][]byte{nil}
	for from := 0; len(all[from]) < 5; from++ {
		for _, c := range letters {
			all = append(all, then(all[from], []byte{c}))
		}
	}
	count := 0
	for _, b := range all {
		v, size, e := codec.Read(b)
		if e != api.OK {
			continue
		}
		count++
		if got, e := codec.Encode(v); !bytes.Equal(got, b[:size]) || e != api.OK {
			t.Fatalf("%v is read as %v, which has the encoding %v, %d", b, v, got, e)
		}
	}
	if count < 1000 {
		t.Errorf("only %d of the bytes are read", count)
	}
}

func TestLargeValues(t *testing.T) {
	for _, v := range []api.Data{many(api.List, 100000), many(api.Record, 65536), text(strings.Repeat("ab", 1<<19)), list(many(api.Record, 5000), many(api.Record, 5000))} {
		b := encoded(v)
		got, e := codec.Encode(v)
		if !bytes.Equal(got, b) || e != api.OK {
			t.Errorf("Encode of a value of %d bytes: got %d bytes, %d", len(b), len(got), e)
		}
		w, size, e := codec.Read(b)
		if !data.Same(v, w) || size != len(b) || e != api.OK {
			t.Errorf("Read of %d bytes: got another value, %d, %d", len(b), size, e)
		}
		if _, _, e := codec.Read(b[:len(b)-1]); e != api.ErrShort {
			t.Errorf("Read of a prefix: got %d", e)
		}
	}
	// The last of many keys occurred already.
	b := then([]byte{8}, uvarint(65537), encoded(many(api.Record, 65536))[4:], []byte{2, 0, 0, 0})
	wantRead(t, b, api.Data{}, 0, api.ErrBytes)
}

// R2

// memory returns where the bytes, the keys and the values of v stand, up to their capacities.
func memory(v api.Data) []uintptr {
	var at []uintptr
	span := func(start unsafe.Pointer, size uintptr) {
		for i := range size {
			at = append(at, uintptr(start)+i)
		}
	}
	span(unsafe.Pointer(unsafe.StringData(v.S)), uintptr(len(v.S)))
	span(unsafe.Pointer(unsafe.SliceData(v.Keys)), uintptr(cap(v.Keys))*unsafe.Sizeof(""))
	span(unsafe.Pointer(unsafe.SliceData(v.L)), uintptr(cap(v.L))*unsafe.Sizeof(v))
	for _, key := range v.Keys {
		span(unsafe.Pointer(unsafe.StringData(key)), uintptr(len(key)))
	}
	for _, w := range v.L {
		at = append(at, memory(w)...)
	}
	return at
}

// wantApart holds several values and bytes to share no memory, nor one of them with itself.
func wantApart(t *testing.T, b []byte, values ...api.Data) {
	t.Helper()
	taken := map[uintptr]bool{}
	for i := range b {
		taken[uintptr(unsafe.Pointer(&b[i]))] = true
	}
	for _, v := range values {
		for _, at := range memory(v) {
			if taken[at] {
				t.Fatalf("memory is shared by what was read from %.80v", b)
			}
			taken[at] = true
		}
	}
}

func TestValuesShareNothing(t *testing.T) {
	same := list(text("ab"), list(null))
	for _, v := range append(valid(), record("ab", same, same), nested(record("ab", same, text("ab")), 9)) {
		b := encoded(v)
		first, size, _ := codec.Read(b)
		second, _, _ := codec.Read(b)
		third, _ := codec.Decode(b)
		wantApart(t, b, first, second, third)
		for i := range b {
			b[i] = 255
		}
		if !equal(first, v) || !equal(third, v) || size != len(b) {
			t.Fatalf("what was read changed with the bytes: %v, %v", first, third)
		}
	}
}

func TestEncodingsShareNothing(t *testing.T) {
	for _, v := range valid() {
		first, _ := codec.Encode(v)
		second, _ := codec.Encode(v)
		first[0]++
		_ = append(first, 1, 2, 3)
		if third, _ := codec.Encode(v); !bytes.Equal(second, encoded(v)) || !bytes.Equal(third, encoded(v)) {
			t.Fatalf("an encoding of %v changed with another one", v)
		}
	}
}

func TestArgumentsStay(t *testing.T) {
	for _, v := range slices.Concat(valid(), wrong()) {
		was := normal(v)
		codec.Encode(v)
		if !equal(v, was) {
			t.Fatalf("Encode changed its argument from %v to %v", was, v)
		}
	}
	for _, v := range valid() {
		backing := then(encoded(v), repeated(20, 7))
		was := slices.Clone(backing)
		for _, b := range [][]byte{backing, backing[:len(backing)-20], backing[:len(backing)-21]} {
			codec.Read(b)
			codec.Decode(b)
		}
		if !bytes.Equal(backing, was) {
			t.Fatalf("an argument was changed from %v to %v", was, backing)
		}
	}
	l, keys := []api.Data{num(1), num(2)}, []string{wide("a"), wide("b")}
	codec.Encode(api.Data{Kind: api.Record, Keys: keys[:1], L: l[:1]})
	if !equal(list(l...), list(num(1), num(2))) || !slices.Equal(keys, []string{wide("a"), wide("b")}) {
		t.Errorf("what stands behind a slice was changed: %v, %v", keys, l)
	}
}
