package octets_test

import (
	"bytes"
	"encoding/binary"
	"hash/crc32"
	"math"
	"math/rand/v2"
	"slices"
	"strings"
	"testing"

	"credenza/api"
	"credenza/octets"
)

// tails are bytes that may follow an encoding, or a frame.
var tails = [][]byte{nil, {0}, {1}, {127}, {128}, {255}, {0, 0, 0, 1}, bytes.Repeat([]byte{255}, 400), bytes.Repeat([]byte{0}, 400)}

// then returns a slice of its own with the bytes of all parts.
func then(parts ...[]byte) []byte {
	return slices.Concat(parts...)
}

// repeated returns n bytes of that value, followed by the bytes of last.
func repeated(n int, value byte, last ...byte) []byte {
	return append(bytes.Repeat([]byte{value}, n), last...)
}

// varied returns n bytes that differ from each other, the same ones each time.
func varied(n int) []byte {
	r := rand.New(rand.NewPCG(uint64(n), 2))
	b := make([]byte, n)
	for i := range b {
		b[i] = byte(r.Uint32())
	}
	return b
}

// integers are those around each power of two, and others between them.
func integers() []uint64 {
	l := []uint64{0, 300, math.MaxUint64, math.MaxUint64 - 1}
	for i := range 64 {
		p := uint64(1) << i
		l = append(l, p-1, p, p+1, p+p/3, p+p/2)
	}
	r := rand.New(rand.NewPCG(1, 2))
	for range 2000 {
		l = append(l, r.Uint64()>>r.IntN(64))
	}
	return l
}

// framed is the frame of b, made without the package's help.
func framed(b []byte) []byte {
	f := binary.BigEndian.AppendUint32(nil, uint32(len(b)))
	sum := crc32.ChecksumIEEE(then(f, b))
	return append(binary.BigEndian.AppendUint32(f, sum), b...)
}

func wantNum(t *testing.T, b []byte, n uint64, size int, e api.Errno) {
	t.Helper()
	gotN, gotSize, gotE := octets.ReadNum(b)
	if gotN != n || gotSize != size || gotE != e {
		t.Errorf("ReadNum(%v): got %d, %d, %d, want %d, %d, %d", b, gotN, gotSize, gotE, n, size, e)
	}
}

func wantText(t *testing.T, b []byte, most int, s string, size int, e api.Errno) {
	t.Helper()
	gotS, gotSize, gotE := octets.ReadText(b, most)
	if gotS != s || gotSize != size || gotE != e {
		t.Errorf("ReadText(%.40v, %d): got %.40q, %d, %d, want %.40q, %d, %d", b, most, gotS, gotSize, gotE, s, size, e)
	}
}

func wantInner(t *testing.T, b []byte, most int, inner []byte, size int, e api.Errno) {
	t.Helper()
	gotInner, gotSize, gotE := octets.Unframe(b, most)
	if !bytes.Equal(gotInner, inner) || gotSize != size || gotE != e {
		t.Errorf("Unframe(%.40v, %d): got %.40v, %d, %d, want %.40v, %d, %d", b, most, gotInner, gotSize, gotE, inner, size, e)
	}
}

// P2.1

func TestNum(t *testing.T) {
	for _, x := range []struct {
		n    uint64
		want []byte
	}{
		{0, []byte{0}},
		{1, []byte{1}},
		{127, []byte{127}},
		{128, []byte{128, 1}},
		{129, []byte{129, 1}},
		{255, []byte{255, 1}},
		{256, []byte{128, 2}},
		{300, []byte{172, 2}},
		{16383, []byte{255, 127}},
		{16384, []byte{128, 128, 1}},
		{1<<63 - 1, repeated(8, 255, 127)},
		{1 << 63, repeated(9, 128, 1)},
		{math.MaxUint64, repeated(9, 255, 1)},
	} {
		if got := octets.Num(x.n); !bytes.Equal(got, x.want) {
			t.Errorf("Num(%d): got %v, want %v", x.n, got, x.want)
		}
	}
	for _, n := range integers() {
		if got, want := octets.Num(n), binary.AppendUvarint(nil, n); !bytes.Equal(got, want) {
			t.Errorf("Num(%d): got %v, want %v", n, got, want)
		}
	}
}

func TestText(t *testing.T) {
	for _, x := range []struct {
		s    string
		want []byte
	}{
		{"", []byte{0}},
		{"a", []byte{1, 97}},
		{"\x00", []byte{1, 0}},
		{"\xff\x80", []byte{2, 255, 128}},
		{"é", []byte{2, 0xc3, 0xa9}},
	} {
		if got := octets.Text(x.s); !bytes.Equal(got, x.want) {
			t.Errorf("Text(%q): got %v, want %v", x.s, got, x.want)
		}
	}
	for _, n := range []int{2, 126, 127, 128, 129, 300, 16383, 16384, 100000} {
		b := varied(n)
		want := then(binary.AppendUvarint(nil, uint64(n)), b)
		if got := octets.Text(string(b)); !bytes.Equal(got, want) {
			t.Errorf("Text of %d bytes: got %.40v", n, got)
		}
	}
}

func TestSum(t *testing.T) {
	if got := octets.Sum(nil); got != 0 {
		t.Errorf("Sum of nothing: got %d", got)
	}
	if got := octets.Sum([]byte("123456789")); got != 0xcbf43926 {
		t.Errorf("got %x", got)
	}
	for x := range 256 {
		for _, b := range [][]byte{{byte(x)}, {0, byte(x)}, {byte(x), 0}, {255, byte(x), 1}} {
			if got, want := octets.Sum(b), crc32.ChecksumIEEE(b); got != want {
				t.Errorf("Sum(%v): got %d, want %d", b, got, want)
			}
		}
	}
	for n := range 300 {
		for _, b := range [][]byte{varied(n), make([]byte, n), repeated(n, 255)} {
			if got, want := octets.Sum(b), crc32.ChecksumIEEE(b); got != want {
				t.Errorf("Sum(%v): got %d, want %d", b, got, want)
			}
		}
	}
}

func TestFrame(t *testing.T) {
	sum := binary.BigEndian.AppendUint32(nil, crc32.ChecksumIEEE([]byte{0, 0, 0, 1, 97}))
	if got, want := octets.Frame([]byte{97}), then([]byte{0, 0, 0, 1}, sum, []byte{97}); !bytes.Equal(got, want) {
		t.Errorf("Frame of 97: got %v, want %v", got, want)
	}
	for _, n := range []int{0, 1, 2, 7, 8, 9, 255, 256, 257, 4088, 65535, 65536, 1 << 24} {
		b := varied(n)
		if got := octets.Frame(b); !bytes.Equal(got, framed(b)) {
			t.Errorf("Frame of %d bytes: got %.40v", n, got)
		}
	}
	if got, want := octets.Frame(nil), framed(nil); !bytes.Equal(got, want) {
		t.Errorf("Frame of nil: got %v, want %v", got, want)
	}
}

// P2.2

func TestReadNum(t *testing.T) {
	for _, x := range []struct {
		b    []byte
		n    uint64
		size int
	}{
		{[]byte{0}, 0, 1},
		{[]byte{0, 0}, 0, 1},
		{[]byte{1, 255}, 1, 1},
		{[]byte{127}, 127, 1},
		{[]byte{128, 1}, 128, 2},
		{[]byte{172, 2}, 300, 2},
		{[]byte{172, 2, 128}, 300, 2},
		{[]byte{128, 128, 1, 0}, 16384, 3},
		{repeated(8, 128, 1), 1 << 56, 9},
		{repeated(8, 255, 127), 1<<63 - 1, 9},
		{repeated(9, 128, 1), 1 << 63, 10},
		{repeated(9, 255, 1), math.MaxUint64, 10},
		{repeated(9, 255, 1, 255, 0), math.MaxUint64, 10},
	} {
		wantNum(t, x.b, x.n, x.size, api.OK)
	}
	for n := range 10 {
		wantNum(t, repeated(n, 128), 0, 0, api.ErrShort)
		wantNum(t, repeated(n, 255), 0, 0, api.ErrShort)
	}
	for _, b := range [][]byte{
		{128, 0}, {129, 0}, {255, 0}, {128, 128, 0}, {255, 255, 0}, {128, 0, 1}, {128, 0, 128}, {128, 0, 0},
	} {
		wantNum(t, b, 0, 0, api.ErrBytes)
	}
}

func TestReadNumOfTenBytes(t *testing.T) {
	for _, tail := range tails {
		for x := range 256 {
			wantN, wantSize, wantE := uint64(0), 0, api.ErrBytes
			if x == 1 {
				wantN, wantSize, wantE = 1<<63, 10, api.OK
			}
			wantNum(t, then(repeated(9, 128, byte(x)), tail), wantN, wantSize, wantE)
		}
	}
}

// readByForm is ReadNum by its definition: whatever is not the encoding of an
// integer is too short if bytes can follow that make it one.
func readByForm(b []byte) (uint64, int, api.Errno) {
	end := slices.IndexFunc(b, func(c byte) bool { return c < 128 }) + 1
	if end == 0 && len(b) < 10 {
		return 0, 0, api.ErrShort
	}
	if end == 0 || end > 10 {
		return 0, 0, api.ErrBytes
	}
	n, size := binary.Uvarint(b[:end])
	if size != end || !bytes.Equal(binary.AppendUvarint(nil, n), b[:end]) {
		return 0, 0, api.ErrBytes
	}
	return n, end, api.OK
}

func TestReadNumOfAllShort(t *testing.T) {
	all := [][]byte{nil}
	for from := 0; len(all[from]) < 5; from++ {
		for _, c := range []byte{0, 1, 2, 127, 128, 129, 255} {
			all = append(all, then(all[from], []byte{c}))
		}
	}
	for _, b := range all {
		for _, head := range [][]byte{nil, repeated(6, 128), repeated(7, 128), repeated(7, 255), repeated(8, 255)} {
			n, size, e := readByForm(then(head, b))
			wantNum(t, then(head, b), n, size, e)
		}
	}
}

// P2.3

func TestReadText(t *testing.T) {
	for _, x := range []struct {
		b    []byte
		most int
		s    string
		size int
		e    api.Errno
	}{
		{[]byte{0}, 0, "", 1, api.OK},
		{[]byte{0, 9}, 0, "", 1, api.OK},
		{[]byte{0}, math.MaxInt, "", 1, api.OK},
		{[]byte{1, 97}, 1, "a", 2, api.OK},
		{[]byte{2, 97, 98, 99}, 2, "ab", 3, api.OK},
		{[]byte{2, 0, 255, 99}, 3, "\x00\xff", 3, api.OK},
		// A length that is none, whatever the greatest one is.
		{nil, 5, "", 0, api.ErrShort},
		{nil, -1, "", 0, api.ErrShort},
		{[]byte{128}, -1, "", 0, api.ErrShort},
		{[]byte{128, 0}, 5, "", 0, api.ErrBytes},
		{repeated(9, 255, 2), math.MaxInt, "", 0, api.ErrBytes},
		// A length that is too great, whether or not so many bytes are left.
		{[]byte{0}, -1, "", 0, api.ErrBytes},
		{[]byte{1, 97}, -1, "", 0, api.ErrBytes},
		{[]byte{0}, math.MinInt, "", 0, api.ErrBytes},
		{[]byte{1, 97}, 0, "", 0, api.ErrBytes},
		{[]byte{2, 97, 98}, 1, "", 0, api.ErrBytes},
		{[]byte{2, 97}, 1, "", 0, api.ErrBytes},
		{repeated(9, 128, 1), math.MaxInt, "", 0, api.ErrBytes},
		{repeated(9, 255, 1), math.MaxInt, "", 0, api.ErrBytes},
		// Bytes that are missing.
		{[]byte{1}, 1, "", 0, api.ErrShort},
		{[]byte{2, 97}, 2, "", 0, api.ErrShort},
		{[]byte{2, 97}, math.MaxInt, "", 0, api.ErrShort},
		{repeated(8, 255, 127, 97), math.MaxInt, "", 0, api.ErrShort},
	} {
		wantText(t, x.b, x.most, x.s, x.size, x.e)
	}
	for _, n := range []int{126, 127, 128, 300, 16384} {
		s := varied(n)
		b := then(binary.AppendUvarint(nil, uint64(n)), s)
		for _, most := range []int{n, n + 1, math.MaxInt} {
			wantText(t, b, most, string(s), len(b), api.OK)
			wantText(t, b[:len(b)-1], most, "", 0, api.ErrShort)
		}
		wantText(t, b, n-1, "", 0, api.ErrBytes)
		wantText(t, b[:len(b)-1], n-1, "", 0, api.ErrBytes)
	}
}

// P2.4

func TestUnframe(t *testing.T) {
	for _, n := range []int{0, 1, 2, 7, 8, 9, 255, 256, 257, 4088, 65536} {
		inner := varied(n)
		f := framed(inner)
		for _, most := range []int{n, n + 1, math.MaxInt} {
			wantInner(t, f, most, inner, n+8, api.OK)
			wantInner(t, append(framed(inner), 1, 2), most, inner, n+8, api.OK)
			wantInner(t, f[:len(f)-1], most, nil, 0, api.ErrShort)
		}
		for _, most := range []int{n - 1, -1, math.MinInt} {
			wantInner(t, f, most, nil, 0, api.ErrBytes)
		}
	}
}

func TestUnframeOfTooFew(t *testing.T) {
	for n := range 8 {
		for _, most := range []int{math.MinInt, -1, 0, 5, math.MaxInt} {
			wantInner(t, make([]byte, n), most, nil, 0, api.ErrShort)
			wantInner(t, repeated(n, 255), most, nil, 0, api.ErrShort)
		}
	}
}

func TestUnframeOfLengths(t *testing.T) {
	for length, b := range map[uint32][]byte{
		1:              {0, 0, 0, 1},
		1 << 8:         {0, 0, 1, 0},
		1 << 16:        {0, 1, 0, 0},
		1 << 24:        {1, 0, 0, 0},
		1<<31 - 1:      {127, 255, 255, 255},
		1 << 31:        {128, 0, 0, 0},
		math.MaxUint32: {255, 255, 255, 255},
	} {
		// Even the greatest length is none below 0, and the checksum is not looked at.
		b = then(b, make([]byte, 4))
		wantInner(t, b, int(length)-1, nil, 0, api.ErrBytes)
		wantInner(t, b, -1, nil, 0, api.ErrBytes)
		wantInner(t, b, int(length), nil, 0, api.ErrShort)
		wantInner(t, b, math.MaxInt, nil, 0, api.ErrShort)
	}
}

func TestUnframeOfWrongSums(t *testing.T) {
	wantInner(t, make([]byte, 8), 0, nil, 0, api.ErrSum)
	wantInner(t, make([]byte, api.Sector), api.Sector, nil, 0, api.ErrSum)
	// A checksum of the bytes alone, one in the other order, and the frame of other bytes.
	inner := []byte("abc")
	length := []byte{0, 0, 0, 3}
	f := framed(inner)
	reversed := []byte{f[7], f[6], f[5], f[4]}
	for _, sum := range [][]byte{binary.BigEndian.AppendUint32(nil, crc32.ChecksumIEEE(inner)), reversed} {
		wantInner(t, then(length, sum, inner), 3, nil, 0, api.ErrSum)
	}
	wantInner(t, then(f[:8], []byte("abd")), 3, nil, 0, api.ErrSum)
	// A wrong checksum is the last of the errors.
	wantInner(t, then(f[:8], []byte("ab")), 3, nil, 0, api.ErrShort)
	wantInner(t, then(f[:8], []byte("abd")), 2, nil, 0, api.ErrBytes)
}

// P2.5

func TestNumIsRead(t *testing.T) {
	for _, n := range integers() {
		b := octets.Num(n)
		for _, tail := range tails {
			wantNum(t, then(b, tail), n, len(b), api.OK)
		}
		for i := range b {
			wantNum(t, b[:i], 0, 0, api.ErrShort)
		}
	}
}

func TestTextIsRead(t *testing.T) {
	for _, s := range []string{"", "a", "\x00", "\x80\xff", "abc", strings.Repeat("x", 127), strings.Repeat("\xff", 128), strings.Repeat("\x00", 400)} {
		b := octets.Text(s)
		for _, tail := range tails {
			wantText(t, then(b, tail), len(s), s, len(b), api.OK)
		}
		for i := range b {
			wantText(t, b[:i], len(s), "", 0, api.ErrShort)
		}
	}
}

func TestFrameIsRead(t *testing.T) {
	for _, n := range []int{0, 1, 2, 9, 300} {
		inner := varied(n)
		f := octets.Frame(inner)
		for _, tail := range tails {
			wantInner(t, then(f, tail), n, inner, len(f), api.OK)
		}
		for i := range f {
			wantInner(t, f[:i], n, nil, 0, api.ErrShort)
		}
	}
}

// changed returns b with those bits from the bit at on inverted that pattern has,
// or nil if one of them is not among the bits up to end.
func changed(b []byte, pattern uint32, at, end int) []byte {
	c := slices.Clone(b)
	for i := range 32 {
		if pattern>>i&1 == 0 {
			continue
		}
		if at+i >= end {
			return nil
		}
		c[(at+i)/8] ^= 1 << ((at + i) % 8)
	}
	return c
}

func TestChangedFrame(t *testing.T) {
	patterns := []uint32{1, math.MaxUint32, 1<<31 | 1, 1<<16 | 1, 3988292384 | 1, 1<<31 | 3988292384>>1}
	r := rand.New(rand.NewPCG(3, 4))
	for range 300 {
		patterns = append(patterns, r.Uint32()>>r.IntN(32)|1)
	}
	for _, n := range []int{0, 1, 5, 16, 40} {
		f := octets.Frame(varied(n))
		for at := range 8 * len(f) {
			end := 8 * 8
			if at >= end {
				end = 8 * len(f)
			}
			for _, pattern := range patterns {
				c := changed(f, pattern, at, end)
				if c == nil {
					continue
				}
				for _, tail := range [][]byte{nil, make([]byte, 300)} {
					if _, size, e := octets.Unframe(then(c, tail), math.MaxInt); e == api.OK && size == len(f) {
						t.Errorf("a frame of %d bytes is read with the bits %b from %d on changed", len(f), pattern, at)
					}
				}
			}
		}
	}
}

// R2

func TestEncodingsShareNothing(t *testing.T) {
	for range 2 {
		n, text := octets.Num(300), octets.Text("abc")
		if !bytes.Equal(n, []byte{172, 2}) || !bytes.Equal(text, []byte("\x03abc")) {
			t.Errorf("an encoding changed with another one: %v, %v", n, text)
		}
		n[0], text[0] = 0, 0
	}
	text := octets.Text("abc")
	s, _, _ := octets.ReadText(text, 3)
	text[1] = 'x'
	if s != "abc" {
		t.Errorf("the string changed with its encoding: %q", s)
	}
}

func TestFramesShareNothing(t *testing.T) {
	inner := []byte("abc")
	f := octets.Frame(inner)
	inner[0] = 'x'
	if !bytes.Equal(f, framed([]byte("abc"))) {
		t.Errorf("the frame changed with the bytes: %v", f)
	}
	f = then(framed([]byte("abc")), []byte("tail"))
	first, _, _ := octets.Unframe(f, 3)
	second, _, _ := octets.Unframe(f, 3)
	first[0] = 'x'
	_ = append(first, "more"...)
	if string(second) != "abc" || !bytes.Equal(f, then(framed([]byte("abc")), []byte("tail"))) {
		t.Errorf("the frame or other bytes of it changed with its bytes: %v, %q", f, second)
	}
	f[8] = 'y'
	if string(second) != "abc" {
		t.Errorf("the bytes changed with the frame: %q", second)
	}
}

func TestArgumentsStay(t *testing.T) {
	backing := repeated(40, 7)
	arg := backing[:20]
	octets.Sum(arg)
	octets.Frame(arg)
	octets.ReadNum(arg)
	octets.ReadText(arg, 20)
	octets.Unframe(arg, math.MaxInt)
	copy(arg, framed([]byte("abc")))
	was := slices.Clone(backing)
	octets.Unframe(arg, 3)
	if !bytes.Equal(backing, was) || !bytes.Equal(backing[20:], repeated(20, 7)) {
		t.Errorf("an argument was changed: %v", backing)
	}
}
