package order_test

import (
	"bytes"
	"encoding/binary"
	"fmt"
	"math"
	"math/big"
	"math/rand/v2"
	"reflect"
	"slices"
	"strings"
	"testing"
	"unsafe"

	"credenza/api"
	"credenza/order"
)

// wide makes a string of units of a text whose runes are the units.
func wide(s string) string {
	var b []byte
	for _, x := range s {
		b = append(b, byte(x>>8), byte(x))
	}
	return string(b)
}

func num(n int64) api.Part {
	return api.Part{N: n}
}

// raw is a text whose units have those bytes.
func raw(s string) api.Part {
	return api.Part{IsText: true, S: s}
}

func text(s string) api.Part {
	return raw(wide(s))
}

func key(k ...api.Part) []api.Part {
	return k
}

// joined returns all strings of at most most letters.
func joined(letters string, most int) []string {
	all := []string{""}
	for from := 0; len(all[from]) < most; from++ {
		for i := range len(letters) {
			all = append(all, all[from]+letters[i:i+1])
		}
	}
	return all
}

// numbers are those at the edges, those around each power of two, and others.
func numbers() []int64 {
	l := []int64{0, 1, -1, 2, 10, -2, -10, 16, 32, 255, 256, -255, -256, -257, api.MaxSafe, api.MaxSafe - 1, -api.MaxSafe, 1 - api.MaxSafe}
	for i := range 53 {
		p := int64(1) << i
		l = append(l, p-1, p, p+p/3, -p, 1-p, -p-p/3)
	}
	r := rand.New(rand.NewPCG(1, 2))
	for range 100 {
		l = append(l, r.Int64N(api.MaxSafe)>>r.IntN(53), -r.Int64N(api.MaxSafe)>>r.IntN(53))
	}
	return l
}

// texts are strings of units, among them all short ones of the bytes that the
// encoding knows.
func texts() []string {
	l := []string{wide("a"), wide("ab"), wide("b"), wide("é"), wide("key"), strings.Repeat("\x00", 40), strings.Repeat("\xff", 40), strings.Repeat("\x00\xff", 20), strings.Repeat("\x00\x01", 20)}
	for _, s := range joined("\x00\x01\x10\x20\xff", 4) {
		if len(s)%2 == 0 {
			l = append(l, s)
		}
	}
	return l
}

// few are parts, enough to make keys of several.
func few() []api.Part {
	l := key(num(-api.MaxSafe), num(-1), num(0), num(2), num(10), num(255), num(api.MaxSafe))
	for _, s := range []string{"", "\x00\x00", "\x00\x01", "\x00\xff", "\x01\x00", "\x10\x00", "\x20\x00", "\xff\xff", "\x00\x00\x00\x00", "\x00\x00\x00\x01", "\x00\x01\x00\x01", "\x00\xff\x00\xff", "\x00\x01\x10\x80"} {
		l = append(l, raw(s))
	}
	return l
}

// valid are keys that are valid and not too long.
func valid() [][]api.Part {
	l := [][]api.Part{nil, {}}
	for _, n := range numbers() {
		l = append(l, key(num(n)))
	}
	for _, s := range texts() {
		l = append(l, key(raw(s)))
	}
	for _, p := range few() {
		for _, q := range few() {
			l = append(l, key(p, q), key(num(0), p, q), key(p, num(-1), q, text("a")))
		}
	}
	r := rand.New(rand.NewPCG(3, 4))
	for range 500 {
		l = append(l, random(r))
	}
	return append(l, long(256)...)
}

// random is a key of at most seven short parts, each of which may resemble others.
func random(r *rand.Rand) []api.Part {
	var k []api.Part
	for range r.IntN(8) {
		if r.IntN(2) == 0 {
			k = append(k, num((r.Int64N(2*api.MaxSafe+1)-api.MaxSafe)>>r.IntN(53)))
			continue
		}
		b := make([]byte, 2*r.IntN(6))
		for i := range b {
			b[i] = "\x00\x00\x01\x10\x20a\xfe\xff"[r.IntN(8)]
		}
		k = append(k, raw(string(b)))
	}
	return k
}

// long are keys whose encodings have exactly that many bytes.
func long(size int) [][]api.Part {
	var l [][]api.Part
	for zeros := range 4 {
		for nums := range 28 {
			for extra := range 3 {
				k := slices.Repeat(key(num(7)), nums)
				k = append(k, slices.Repeat(key(raw("")), extra)...)
				left := size - 9*nums - 3*extra - 3 - zeros
				if left >= max(zeros, 2) && left%2 == 0 {
					l = append(l, append(k, raw(strings.Repeat("\x00", zeros)+strings.Repeat("x", left-zeros))))
				}
			}
		}
	}
	for nums := range size/9 + 1 {
		if left := size - 9*nums; left%3 == 0 {
			l = append(l, append(slices.Repeat(key(num(-7)), nums), slices.Repeat(key(raw("")), left/3)...))
		}
	}
	return l
}

// wrong are parts that are not valid.
func wrong() []api.Part {
	return key(
		num(api.MaxSafe+1), num(-api.MaxSafe-1), num(math.MaxInt64), num(math.MinInt64), num(1<<62), num(-1<<62),
		api.Part{S: wide("a")}, api.Part{S: "a"}, api.Part{N: 1, S: wide("a")}, api.Part{N: api.MaxSafe + 1, S: "a"},
		raw("a"), raw("abc"), raw("\x00"), raw("\x00\x00\x00"), raw("\xff"), raw(strings.Repeat("x", 255)),
		api.Part{IsText: true, N: 1}, api.Part{IsText: true, N: -1, S: wide("a")}, api.Part{IsText: true, N: api.MaxSafe, S: "a"}, api.Part{IsText: true, N: math.MinInt64},
	)
}

// encoded is the encoding of a valid key, without the package's help.
func encoded(k []api.Part) string {
	var b []byte
	for _, p := range k {
		if !p.IsText {
			sum := new(big.Int).Add(big.NewInt(p.N), new(big.Int).Lsh(big.NewInt(1), 63))
			b = append(append(b, 16), sum.FillBytes(make([]byte, 8))...)
			continue
		}
		b = append(b, 32)
		for i := range len(p.S) {
			b = append(b, p.S[i])
			if p.S[i] == 0 {
				b = append(b, 255)
			}
		}
		b = append(b, 0, 1)
	}
	return string(b)
}

// decoded reads an encoding byte by byte, without the package's help.
func decoded(s string) ([]api.Part, api.Errno) {
	var k []api.Part
	if len(s) > 256 {
		return nil, api.ErrBytes
	}
	for len(s) > 0 {
		kind := s[0]
		s = s[1:]
		switch {
		case kind == 16 && len(s) >= 8:
			sum := binary.BigEndian.Uint64([]byte(s[:8]))
			if sum < 1<<63-api.MaxSafe || sum > 1<<63+api.MaxSafe {
				return nil, api.ErrBytes
			}
			k = append(k, num(int64(sum^1<<63)))
			s = s[8:]
		case kind == 32:
			var b []byte
			for ended := false; !ended; {
				switch {
				case len(s) < 2:
					return nil, api.ErrBytes
				case s[0] != 0:
					b, s = append(b, s[0]), s[1:]
				case s[1] == 255:
					b, s = append(b, 0), s[2:]
				case s[1] == 1:
					ended, s = true, s[2:]
				default:
					return nil, api.ErrBytes
				}
			}
			if len(b)%2 == 1 {
				return nil, api.ErrBytes
			}
			k = append(k, raw(string(b)))
		default:
			return nil, api.ErrBytes
		}
	}
	return k, api.OK
}

// wordsOf makes a list of units of a string of units.
func wordsOf(u string) []uint16 {
	l := make([]uint16, len(u)/2)
	for i := range l {
		l[i] = uint16(u[2*i])*256 + uint16(u[2*i+1])
	}
	return l
}

// compared is the order of two keys of valid parts, without the package's help.
func compared(a, b []api.Part) int {
	for i := 0; i < len(a) && i < len(b); i++ {
		p, q := a[i], b[i]
		switch {
		case p == q:
		case p.IsText != q.IsText:
			if q.IsText {
				return -1
			}
			return 1
		case p.IsText:
			return slices.Compare(wordsOf(p.S), wordsOf(q.S))
		default:
			return big.NewInt(p.N).Cmp(big.NewInt(q.N))
		}
	}
	return min(1, max(-1, len(a)-len(b)))
}

func equal(a, b []api.Part) bool {
	return slices.Equal(a, b)
}

func wantEncoded(t *testing.T, k []api.Part, want string, wantE api.Errno) {
	t.Helper()
	if e := order.Check(k); e != wantE {
		t.Errorf("Check(%.200s): got %d, want %d", fmt.Sprint(k), e, wantE)
	}
	if got, e := order.Encode(k); got != want || e != wantE {
		t.Errorf("Encode(%.200s): got %.300q, %d, want %.300q, %d", fmt.Sprint(k), got, e, want, wantE)
	}
	if wantE == api.OK {
		want += "\xff"
	}
	if got, e := order.Behind(k); got != want || e != wantE {
		t.Errorf("Behind(%.200s): got %.300q, %d, want %.300q, %d", fmt.Sprint(k), got, e, want, wantE)
	}
}

func wantDecoded(t *testing.T, s string, want []api.Part, wantE api.Errno) {
	t.Helper()
	if got, e := order.Decode(s); !equal(got, want) || e != wantE {
		t.Errorf("Decode(%.300q): got %v, %d, want %v, %d", s, got, e, want, wantE)
	}
}

func wantCompared(t *testing.T, a, b []api.Part, want int) {
	t.Helper()
	if got := order.Compare(a, b); got != want {
		t.Errorf("Compare(%.200s, %.200s): got %d, want %d", fmt.Sprint(a), fmt.Sprint(b), got, want)
	}
	if got := order.Compare(b, a); got != -want {
		t.Errorf("Compare(%.200s, %.200s): got %d, want %d", fmt.Sprint(b), fmt.Sprint(a), got, -want)
	}
}

// P5.1 and P5.2

// examples are encodings and their keys.
func examples() map[string][]api.Part {
	return map[string][]api.Part{
		"":                                     nil,
		"\x20\x00\xffa\x00\x01":                key(text("a")),
		"\x20\x00\x01":                         key(text("")),
		"\x20\x00\x01\x20\x00\x01":             key(text(""), text("")),
		"\x20\x00\xff\x00\xff\x00\x01":         key(raw("\x00\x00")),
		"\x20\x00\xff\x01\x00\x01":             key(raw("\x00\x01")),
		"\x20\x01\x00\xff\x00\x01":             key(raw("\x01\x00")),
		"\x20\x00\xff\xff\x00\x01":             key(raw("\x00\xff")),
		"\x20\xff\xff\x00\x01":                 key(raw("\xff\xff")),
		"\x10\x80\x00\x00\x00\x00\x00\x00\x00": key(num(0)),
		"\x10\x80\x00\x00\x00\x00\x00\x00\x01": key(num(1)),
		"\x10\x7f\xff\xff\xff\xff\xff\xff\xff": key(num(-1)),
		"\x10\x80\x00\x00\x00\x00\x00\x01\x2c": key(num(300)),
		"\x10\x80\x1f\xff\xff\xff\xff\xff\xff": key(num(api.MaxSafe)),
		"\x10\x7f\xe0\x00\x00\x00\x00\x00\x01": key(num(-api.MaxSafe)),
		"\x10\x80\x00\x00\x00\x00\x00\x00\x00\x20\x00\xffa\x00\xffb\x00\x01":                   key(num(0), text("ab")),
		"\x20\x00\xffa\x00\x01\x10\x80\x00\x00\x00\x00\x00\x00\x20":                            key(text("a"), num(32)),
		"\x10\x80\x00\x00\x00\x00\x00\x00\x02\x10\x80\x00\x00\x00\x00\x00\x00\x10\x20\x00\x01": key(num(2), num(16), text("")),
	}
}

func TestEncode(t *testing.T) {
	for s, k := range examples() {
		wantEncoded(t, k, s, api.OK)
	}
	for _, k := range valid() {
		wantEncoded(t, k, encoded(k), api.OK)
	}
	wantEncoded(t, []api.Part{}, "", api.OK)
}

func TestEncodeOfWrong(t *testing.T) {
	huge := slices.Repeat(key(num(1)), 1000)
	for _, p := range wrong() {
		wantEncoded(t, key(p), "", api.ErrKey)
		for _, q := range few() {
			wantEncoded(t, key(p, q), "", api.ErrKey)
			wantEncoded(t, key(q, p), "", api.ErrKey)
			wantEncoded(t, key(q, p, q), "", api.ErrKey)
		}
		// Whether what is too long stands ahead of it, behind it, or in it.
		wantEncoded(t, append(slices.Clone(huge), p), "", api.ErrKey)
		wantEncoded(t, append(key(p), huge...), "", api.ErrKey)
		wantEncoded(t, key(raw(strings.Repeat("x", 1000)), p), "", api.ErrKey)
		p.S += strings.Repeat("x", 1000)
		wantEncoded(t, key(p), "", api.ErrKey)
	}
	wantEncoded(t, key(num(api.MaxSafe), num(-api.MaxSafe)), encoded(key(num(api.MaxSafe), num(-api.MaxSafe))), api.OK)
	wantEncoded(t, key(text("a"), num(api.MaxSafe+1)), "", api.ErrKey)
	wantEncoded(t, key(text("a"), num(-api.MaxSafe-1)), "", api.ErrKey)
}

func TestEncodeOfLong(t *testing.T) {
	for size := 240; size <= 275; size++ {
		for _, k := range long(size) {
			want, e := encoded(k), api.OK
			if len(want) != size {
				t.Fatalf("the encoding of %v has %d bytes, not %d", k, len(want), size)
			}
			if size > 256 {
				want, e = "", api.ErrLong
			}
			wantEncoded(t, k, want, e)
		}
	}
	if len(long(256)) < 50 || len(long(257)) < 50 {
		t.Errorf("too few keys: %d, %d", len(long(256)), len(long(257)))
	}
	for _, k := range [][]api.Part{
		slices.Repeat(key(num(0)), 29), slices.Repeat(key(text("")), 86), slices.Repeat(key(num(1)), 1000000), slices.Repeat(key(text("")), 1000000),
		key(raw(strings.Repeat("x", 254))), key(raw(strings.Repeat("\x00", 128))), key(raw(strings.Repeat("\x00x", 1<<20))), key(num(0), raw(strings.Repeat("\xff", 1<<20)), num(0)),
		slices.Repeat(key(raw(strings.Repeat("y", 1<<20))), 1000),
	} {
		wantEncoded(t, k, "", api.ErrLong)
	}
	for _, k := range [][]api.Part{
		slices.Repeat(key(num(0)), 28), slices.Repeat(key(text("")), 85), key(raw(strings.Repeat("x", 252))), key(raw(strings.Repeat("\x00", 126))), key(raw("x" + strings.Repeat("\x00", 125))),
	} {
		wantEncoded(t, k, encoded(k), api.OK)
	}
}

func TestCompare(t *testing.T) {
	// Each precedes all that follow it.
	sorted := [][]api.Part{
		nil,
		key(num(-api.MaxSafe)), key(num(-256)), key(num(-255)), key(num(-10)), key(num(-2)), key(num(-1)), key(num(-1), num(5)),
		key(num(0)), key(num(0), num(0)), key(num(0), text("")), key(num(0), text("z")),
		key(num(1)), key(num(2)), key(num(2), num(1)), key(num(2), num(1), num(-1)), key(num(2), num(10)), key(num(2), text("")), key(num(10)), key(num(255)), key(num(256)), key(num(api.MaxSafe)), key(num(api.MaxSafe), text("a")),
		key(text("")), key(text(""), num(0)), key(text(""), text("")), key(text(""), text(""), text("")), key(text(""), text("a")),
		key(text("\x00")), key(text("\x00"), num(1)), key(text("\x00"), text("")), key(text("\x00\x00")), key(text("\x00\x01")), key(text("\x01")), key(text("\x01"), num(0)), key(text("\x01\x00")),
		key(text("a")), key(text("a"), num(-1)), key(text("a"), num(1)), key(text("a"), text("b")), key(text("a\x00")), key(text("aa")), key(text("ab")), key(text("ab"), num(1)), key(text("b")),
		key(text("\u00ff")), key(text("\u0100")), key(text("\u0101")), key(text("\u0200")), key(text("\uff00")), key(text("\uffff")), key(text("\uffff\uffff")),
	}
	for i, a := range sorted {
		for j, b := range sorted {
			wantCompared(t, a, slices.Clone(b), min(1, max(-1, i-j)))
		}
	}
	wantCompared(t, nil, []api.Part{}, 0)
}

func TestCompareOfAll(t *testing.T) {
	keys := valid()
	r := rand.New(rand.NewPCG(5, 6))
	for range 200000 {
		a, b := keys[r.IntN(len(keys))], keys[r.IntN(len(keys))]
		wantCompared(t, a, b, compared(a, b))
	}
	for _, s := range texts() {
		for _, u := range texts() {
			wantCompared(t, key(raw(s), num(1)), key(raw(u), num(0)), compared(key(raw(s), num(1)), key(raw(u), num(0))))
		}
	}
	for _, n := range numbers() {
		for _, m := range numbers() {
			wantCompared(t, key(num(n)), key(num(m)), compared(key(num(n)), key(num(m))))
		}
	}
	// Keys that are too long have an order, too.
	a := slices.Repeat(key(num(1)), 100000)
	wantCompared(t, a, append(slices.Clone(a), num(0)), -1)
	wantCompared(t, append(slices.Clone(a), num(1), num(7)), append(slices.Clone(a), num(2)), -1)
	wantCompared(t, key(raw(strings.Repeat("x", 1<<20))), key(raw(strings.Repeat("x", 1<<20)+"\x00\x00")), -1)
}

func TestCompareOfWrong(t *testing.T) {
	sorted := [][]api.Part{
		key(num(math.MinInt64)), key(num(math.MinInt64 + 1)), key(num(-api.MaxSafe - 1)), key(num(-api.MaxSafe)), key(num(0)), key(num(api.MaxSafe)), key(num(api.MaxSafe + 1)), key(num(math.MaxInt64 - 1)), key(num(math.MaxInt64)),
		key(raw("")), key(raw("\x00")), key(raw("\x00\x00")), key(raw("\x00\x00\x00")), key(raw("\x00\x01")), key(raw("\x01")), key(raw("a")), key(raw("aa")), key(raw("aaa")), key(raw("a\xff")), key(raw("b")), key(raw("\xff")),
	}
	for i, a := range sorted {
		for j, b := range sorted {
			want := min(1, max(-1, i-j))
			wantCompared(t, a, b, want)
			// What is not a part's own does not count.
			a, b := slices.Clone(a), slices.Clone(b)
			for k, p := range []*api.Part{&a[0], &b[0]} {
				if p.IsText {
					p.N = int64(5 - 9*k)
				} else {
					p.S = []string{"z", "ab"}[k]
				}
			}
			wantCompared(t, a, b, want)
			wantCompared(t, append(a, num(1)), append(b, num(2)), min(1, max(-1, 3*want-1)))
		}
	}
	wantCompared(t, key(api.Part{N: 1, S: "b"}), key(api.Part{N: 1, S: "a"}), 0)
	wantCompared(t, key(api.Part{IsText: true, N: 2, S: "b"}), key(api.Part{IsText: true, N: 1, S: "b"}), 0)
	wantCompared(t, key(api.Part{N: 1, S: "b"}), key(api.Part{IsText: true, N: -1}), -1)
}

// P5.3

// tails are bytes that make no encoding of one that they follow.
var tails = []string{"\x00", "\x01", "\x0f", "\x10", "\x11", "\x1f", "\x20", "\x21", "\xff", "\x20\x00", "\x20\x01", "\x20a\x00\x01", "\x20\x00\x00\x01", "\x20\x00\x02", "\x10\x80", "\x10\x80\x00\x00\x00\x00\x00\x00", "\x10\x80\x20\x00\x00\x00\x00\x00\x00", "\x10\x7f\xe0\x00\x00\x00\x00\x00\x00", "\x10\x00\x00\x00\x00\x00\x00\x00\x00", "\x10\xff\xff\xff\xff\xff\xff\xff\xff"}

func TestDecode(t *testing.T) {
	for s, k := range examples() {
		wantDecoded(t, s, k, api.OK)
	}
	for _, k := range valid() {
		wantDecoded(t, encoded(k), k, api.OK)
	}
}

func TestDecodeOfWrong(t *testing.T) {
	for _, k := range valid() {
		s := encoded(k)
		for _, tail := range tails {
			wantDecoded(t, s+tail, nil, api.ErrBytes)
		}
		wantDecoded(t, s+"\xff", nil, api.ErrBytes)
		for i := range len(s) {
			// A prefix is an encoding only where a part of the key ends.
			want, e := decoded(s[:i])
			wantDecoded(t, s[:i], want, e)
		}
	}
	for c := range 256 {
		first := string([]byte{byte(c)})
		wantDecoded(t, first, nil, api.ErrBytes)
		if c != 16 && c != 32 {
			wantDecoded(t, first+"\x00\x01", nil, api.ErrBytes)
			wantDecoded(t, first+"\x80\x00\x00\x00\x00\x00\x00\x00", nil, api.ErrBytes)
		}
		// What follows a zero in a text.
		if c != 1 && c != 255 {
			wantDecoded(t, "\x20\x00"+first+"\x00\x01", nil, api.ErrBytes)
			wantDecoded(t, "\x20a\x00"+first+"\x00\x01", nil, api.ErrBytes)
		}
	}
	// The edges of the numbers.
	for _, s := range []string{
		"\x10\x80\x20\x00\x00\x00\x00\x00\x00", "\x10\x80\x20\x00\x00\x00\x00\x00\x01", "\x10\x7f\xe0\x00\x00\x00\x00\x00\x00", "\x10\x7f\xdf\xff\xff\xff\xff\xff\xff",
		"\x10\x00\x00\x00\x00\x00\x00\x00\x00", "\x10\xff\xff\xff\xff\xff\xff\xff\xff",
	} {
		wantDecoded(t, s, nil, api.ErrBytes)
		wantDecoded(t, s+"\x20\x00\x01", nil, api.ErrBytes)
		wantDecoded(t, "\x20\x00\x01"+s, nil, api.ErrBytes)
	}
}

func TestDecodeOfLong(t *testing.T) {
	for size := 240; size <= 275; size++ {
		for _, k := range long(size) {
			if size > 256 {
				wantDecoded(t, encoded(k), nil, api.ErrBytes)
			} else {
				wantDecoded(t, encoded(k), k, api.OK)
			}
		}
	}
	for _, s := range []string{strings.Repeat("\x00", 1<<20), strings.Repeat("\x20\x00\x01", 1<<20), "\x20" + strings.Repeat("x", 1<<20), strings.Repeat("\x10", 9<<10)} {
		wantDecoded(t, s, nil, api.ErrBytes)
	}
}

func TestDecodeOfAllShort(t *testing.T) {
	number := encoded(key(num(5)))
	count := 0
	for _, s := range joined("\x00\x01\x10\x20a\xff", 7) {
		want, e := decoded(s)
		wantDecoded(t, s, want, e)
		if e == api.OK {
			count++
		}
		want, e = decoded("\x20" + s + "\x00\x01")
		wantDecoded(t, "\x20"+s+"\x00\x01", want, e)
		if len(s) < 5 {
			want, e = decoded(number + s + number)
			wantDecoded(t, number+s+number, want, e)
			want, e = decoded("\x10" + s + "\x00\x00\x00\x00\x00")
			wantDecoded(t, "\x10"+s+"\x00\x00\x00\x00\x00", want, e)
			want, e = decoded("\x10\x80\x1f" + s + "\xff\xff")
			wantDecoded(t, "\x10\x80\x1f"+s+"\xff\xff", want, e)
		}
	}
	if count < 40 {
		t.Errorf("only %d of the strings are encodings", count)
	}
}

func TestDecodeOfChanged(t *testing.T) {
	r := rand.New(rand.NewPCG(7, 8))
	keys := valid()
	errors := map[api.Errno]int{}
	for range 100000 {
		s := []byte(encoded(random(r)))
		if r.IntN(10) == 0 {
			s = []byte(encoded(keys[r.IntN(len(keys))]))
		}
		for range 1 + r.IntN(2) {
			if len(s) == 0 {
				continue
			}
			at := r.IntN(len(s))
			switch c := "\x00\x01\x10\x20\x7f\x80\xfe\xff"[r.IntN(8)]; r.IntN(4) {
			case 0:
				s[at] = c
			case 1:
				s[at] ^= 1 << r.IntN(8)
			case 2:
				s = slices.Insert(s, at, c)
			case 3:
				s = slices.Delete(s, at, at+1)
			}
		}
		want, e := decoded(string(s))
		errors[e]++
		wantDecoded(t, string(s), want, e)
	}
	if errors[api.OK] < 1000 || errors[api.ErrBytes] < 1000 {
		t.Errorf("the changes are too much alike: %v", errors)
	}
}

func TestDecodedIsEncoded(t *testing.T) {
	for _, s := range joined("\x00\x01\x10\x20\xff", 8) {
		k, e := order.Decode(s)
		if e != api.OK {
			continue
		}
		if got, e := order.Encode(k); got != s || e != api.OK {
			t.Fatalf("%q is decoded as %v, which has the encoding %q, %d", s, k, got, e)
		}
	}
}

// P5.4

func mustEncode(t *testing.T, k []api.Part) (from, to string) {
	t.Helper()
	from, e := order.Encode(k)
	to, e2 := order.Behind(k)
	if e != api.OK || e2 != api.OK {
		t.Fatalf("Encode and Behind of %v: got %d, %d", k, e, e2)
	}
	return from, to
}

func begins(k, head []api.Part) bool {
	return len(k) >= len(head) && equal(k[:len(head)], head)
}

// related are keys that differ by little, so that many are heads of others.
func related() [][]api.Part {
	parts := key(num(-api.MaxSafe), num(-1), num(0), num(255), num(256), num(api.MaxSafe), raw(""), raw("\x00\x00"), raw("\x00\x01"), raw("\x00\xff"), raw("\xff\xff"), raw("\x00\x00\x00\x00"), raw("\x00\x00\x00\x01"))
	all := [][]api.Part{nil}
	for from := 0; len(all[from]) < 2; from++ {
		for _, p := range parts {
			all = append(all, append(slices.Clone(all[from]), p))
		}
	}
	for _, p := range parts {
		all = append(all, key(num(0), raw(""), p), key(raw("\x00\x00"), raw(""), p), key(raw("\xff\xff"), num(api.MaxSafe), p))
	}
	r := rand.New(rand.NewPCG(9, 10))
	for range 200 {
		k := random(r)
		all = append(all, k, k[:len(k)/2], append(slices.Clone(k), num(1)))
	}
	return append(all, long(256)[:20]...)
}

func TestEncodingsAreOrdered(t *testing.T) {
	keys := related()
	heads := 0
	for _, a := range keys {
		from, to := mustEncode(t, a)
		for _, b := range keys {
			s, _ := mustEncode(t, b)
			if got, want := strings.Compare(from, s), order.Compare(a, b); got != want || want != compared(a, b) {
				t.Fatalf("%v and %v: the encodings have the order %d, the keys %d", a, b, got, want)
			}
			within := from <= s && s < to
			if within != begins(b, a) {
				t.Fatalf("%v is within the encodings of %v: %v", b, a, within)
			}
			if within && len(b) > len(a) {
				heads++
			}
		}
	}
	if heads < 500 {
		t.Errorf("only %d keys begin with others", heads)
	}
}

func TestSortedByEncodings(t *testing.T) {
	keys := valid()
	byKeys, byEncodings := slices.Clone(keys), slices.Clone(keys)
	slices.SortStableFunc(byKeys, order.Compare)
	slices.SortStableFunc(byEncodings, func(a, b []api.Part) int { return strings.Compare(encoded(a), encoded(b)) })
	for i := range byKeys {
		if !equal(byKeys[i], byEncodings[i]) {
			t.Fatalf("at %d stands %v by the keys, %v by the encodings", i, byKeys[i], byEncodings[i])
		}
	}
}

// R2

// apart holds strings to share no memory, but for those of a single byte, which
// Go itself keeps once each.
func apart(t *testing.T, what string, l ...string) {
	t.Helper()
	taken := map[uintptr]bool{}
	for _, s := range l {
		if len(s) == 1 {
			continue
		}
		start := uintptr(unsafe.Pointer(unsafe.StringData(s)))
		for i := range len(s) {
			if taken[start+uintptr(i)] {
				t.Fatalf("memory is shared by %s: %q", what, l)
			}
			taken[start+uintptr(i)] = true
		}
	}
}

func TestResultsShareNothing(t *testing.T) {
	keys := append(valid(), key(raw("xy"), raw("xy"), raw("ab\x00\x00")), key(raw(strings.Repeat("x", 250))))
	for _, k := range keys {
		s := strings.Clone(encoded(k))
		first, _ := order.Decode(s)
		second, _ := order.Decode(s)
		all := []string{s}
		for i := range first {
			all = append(all, first[i].S, second[i].S)
		}
		for _, p := range k {
			if p.IsText {
				all = append(all, strings.Clone(p.S))
			}
		}
		apart(t, "what was decoded", all...)
		for i := range first {
			first[i] = num(-5)
		}
		_ = append(first, num(1))
		if third, _ := order.Decode(s); !equal(second, k) || !equal(third, k) {
			t.Fatalf("a key that was decoded changed with another one: %v, %v", second, third)
		}
		a, _ := order.Encode(k)
		b, _ := order.Encode(k)
		c, _ := order.Behind(k)
		d, _ := order.Behind(k)
		apart(t, "encodings", a, b, c, d)
	}
}

func TestArgumentsStay(t *testing.T) {
	for _, k := range append(valid(), key(wrong()...), slices.Repeat(key(num(1), text("a")), 100)) {
		backing := append(slices.Clone(k), num(1), text("x"))
		was := slices.Clone(backing)
		for _, a := range [][]api.Part{backing, backing[:len(k)]} {
			order.Check(a)
			order.Compare(a, backing)
			order.Compare(backing, a)
			order.Encode(a)
			order.Behind(a)
		}
		if !reflect.DeepEqual(backing, was) {
			t.Fatalf("an argument was changed from %v to %v", was, backing)
		}
	}
	// A key that was encoded may be modified.
	k := key(text("ab"), num(7))
	s, _ := order.Encode(k)
	k[0], k[1] = num(1), text("c")
	if s != encoded(key(text("ab"), num(7))) {
		t.Errorf("an encoding changed with the key: %q", s)
	}
	b := bytes.Repeat([]byte("x"), 8)
	p := raw(string(b))
	order.Encode(key(p))
	if p.S != string(b) {
		t.Errorf("a text was changed: %q", p.S)
	}
}
