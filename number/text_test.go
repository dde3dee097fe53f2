package number_test

import (
	"fmt"
	"math"
	"math/big"
	"math/rand/v2"
	"regexp"
	"strings"
	"testing"
	"unsafe"

	"credenza/api"
	"credenza/number"
)

// of makes a string of units.
func of(l ...int) string {
	b := make([]byte, 0, 2*len(l))
	for _, x := range l {
		b = append(b, byte(x/256), byte(x%256))
	}
	return string(b)
}

// list returns the runes of s, each of which is to be a unit.
func list(s string) []int {
	var l []int
	for _, x := range s {
		l = append(l, int(x))
	}
	return l
}

// wide makes a string of units of a text whose runes are the units.
func wide(s string) string {
	return of(list(s)...)
}

// spaces are the units that are white space.
func spaces() []int {
	return []int{9, 10, 11, 12, 13, 32, 160, 8232, 8233, 65279}
}

// isSpace reports for each unit whether it is white space.
func isSpace() [65536]bool {
	var is [65536]bool
	for _, x := range spaces() {
		is[x] = true
	}
	return is
}

var (
	space = isSpace()
	form  = regexp.MustCompile(`^ *(?:([+-]?[0-9]+)|0[xX]([0-9a-fA-F]+))? *$`)
)

// readByForm is Read by an expression, and by integers of any size.
func readByForm(l []int) (int64, api.Errno) {
	s := make([]byte, len(l))
	for i, x := range l {
		switch {
		case space[x]:
			s[i] = ' '
		case x > ' ' && x < 127:
			s[i] = byte(x)
		default:
			s[i] = '?'
		}
	}
	m := form.FindSubmatch(s)
	if m == nil {
		return 0, api.ErrRange
	}
	n := new(big.Int)
	if len(m[1]) > 0 {
		n.SetString(string(m[1]), 10)
	}
	if len(m[2]) > 0 {
		n.SetString(string(m[2]), 16)
	}
	if !isNumber(n) {
		return 0, api.ErrRange
	}
	return n.Int64(), api.OK
}

func wantRead(t *testing.T, u string, want int64, wantE api.Errno) {
	t.Helper()
	if got, e := number.Read(u); got != want || e != wantE {
		t.Errorf("Read(%.200q): got %d, %d, want %d, %d", u, got, e, want, wantE)
	}
}

// wantForm holds Read against the expression.
func wantForm(t *testing.T, l ...int) {
	t.Helper()
	want, wantE := readByForm(l)
	wantRead(t, of(l...), want, wantE)
}

// P10.2

func TestText(t *testing.T) {
	for _, x := range []struct {
		n    int64
		want string
	}{
		{0, "0"}, {7, "7"}, {-7, "-7"}, {10, "10"}, {-10, "-10"}, {99, "99"}, {100, "100"},
		{safe, "9007199254740991"}, {-safe, "-9007199254740991"},
		// Also what is no number has a text.
		{safe + 1, "9007199254740992"}, {-safe - 1, "-9007199254740992"},
		{math.MaxInt64, "9223372036854775807"}, {math.MinInt64, "-9223372036854775808"},
	} {
		if got := number.Text(x.n); got != wide(x.want) {
			t.Errorf("Text(%d): got %q", x.n, got)
		}
	}
}

func TestTextOfValues(t *testing.T) {
	r := rand.New(rand.NewPCG(10, 4))
	l := values()
	for i := range 19 {
		ten := int64(math.Pow10(i))
		l = append(l, ten, ten-1, ten+1, -ten, 1-ten, -ten-1)
	}
	for n := int64(-2000); n <= 2000; n++ {
		l = append(l, n)
	}
	for range 20000 {
		l = append(l, random(r), int64(r.Uint64()))
	}
	for _, n := range l {
		if got := number.Text(n); got != wide(fmt.Sprint(n)) {
			t.Errorf("Text(%d): got %q", n, got)
		}
	}
}

// R2

func TestTextIsNotShared(t *testing.T) {
	for _, n := range []int64{0, 7, -7, 42, safe, math.MinInt64} {
		if a, b := number.Text(n), number.Text(n); unsafe.StringData(a) == unsafe.StringData(b) {
			t.Errorf("Text(%d): two results share memory", n)
		}
	}
}

// P10.3

func TestRead(t *testing.T) {
	for _, x := range []struct {
		s string
		n int64
	}{
		{"", 0}, {" ", 0}, {"\t\n\v\f\r \u00a0\u2028\u2029\ufeff", 0},
		{"0", 0}, {"-0", 0}, {"+0", 0}, {"00", 0}, {"-00", 0},
		{" -012 ", -12}, {"+12", 12}, {"-12", -12}, {"0012", 12}, {"09", 9}, {"1234567890", 1234567890},
		{"\ufeff\u2029 12\u2028\u00a0\n", 12},
		{"0x0", 0}, {"0X0", 0}, {"0x1F", 31}, {"0X1f", 31}, {" 0xAbCdEf ", 0xabcdef}, {"0x000a", 10},
		{"0x1234567890", 0x1234567890}, {"0xabcdef", 0xabcdef}, {"0XABCDEF", 0xabcdef},
		{"9007199254740991", safe}, {"-9007199254740991", -safe}, {"+9007199254740991", safe},
		{"000009007199254740991", safe}, {"0x1fffffffffffff", safe}, {"0X0001FFFFFFFFFFFFF", safe},
	} {
		wantRead(t, wide(x.s), x.n, api.OK)
	}
	for _, s := range []string{
		"1.0", ".1", "1.", "1e3", "1E3", "0b1", "0o7", "1_000", "1,000", "a", "1a", "a1", "NaN", "Infinity", "null", "true",
		"+", "-", "+-1", "-+1", "--1", "++1", "- 1", "+ 1", "1-", "1+", "1 2", "1\n2", "1\u00a02", "\u200b1", "1\u0085", "\u180e1", "1\u3000",
		"x", "0x", "0X", "x1", "0x ", "0x 1", "0 x1", "0xg", "0x1g", "0x1.", "00x1", "1x1", "0x0x1", "0xx1", "0x1 2",
		"-0x1", "+0x1", "0x-1", "0x+1", "0x_1", "0x1n", "1n", "\x001", "1\x00", "0x\x00",
		"９", "0x１", "０",
		"9007199254740992", "-9007199254740992", "0x20000000000000", "9223372036854775808", "18446744073709551616", "18446744073709551617",
		"-18446744073709551617", "0x10000000000000000", "0x10000000000000001", "90071992547409910", "0x1fffffffffffff0",
		"9007199254740991.", "9007199254740992x", "99999999999999999999999999x",
	} {
		wantRead(t, wide(s), 0, api.ErrRange)
	}
}

func TestReadOfNoUnits(t *testing.T) {
	for _, s := range []string{"", " ", "0", "1", "-1", "12 ", "0x1f"} {
		for _, tail := range []string{"\x00", " ", "1", "\xff"} {
			wantRead(t, wide(s)+tail, 0, api.ErrRange)
			wantRead(t, tail+wide(s), 0, api.ErrRange)
		}
	}
	for n := 1; n < 12; n += 2 {
		wantRead(t, strings.Repeat(" ", n), 0, api.ErrRange)
		wantRead(t, wide("123456")[:n], 0, api.ErrRange)
	}
	// Bytes that are digits, two of them in a unit.
	wantRead(t, "12", 0, api.ErrRange)
	wantRead(t, "1\x00", 0, api.ErrRange)
}

// TestReadOfEachUnit puts each unit at each place of what is read.
func TestReadOfEachUnit(t *testing.T) {
	for x := range 65536 {
		for _, s := range []string{"", "7", "-", "+7", "-12", "0", "0x", "0xa", " ", " 7 ", " 0X1F "} {
			l := list(s)
			for i := range len(l) + 1 {
				with := append(append(append([]int{}, l[:i]...), x), l[i:]...)
				wantForm(t, with...)
			}
		}
	}
}

func TestReadOfAllShort(t *testing.T) {
	letters := list(" \u2028+-019xXafAFg.")
	var all func(l []int, most int)
	all = func(l []int, most int) {
		wantForm(t, l...)
		if most == 0 {
			return
		}
		for _, x := range letters {
			all(append(l[:len(l):len(l)], x), most-1)
		}
	}
	all(nil, 5)
}

// TestReadOfGreat reads integers around the edges, also those that are far too
// great, and that 64 bits would make small, in each form.
func TestReadOfGreat(t *testing.T) {
	r := rand.New(rand.NewPCG(10, 5))
	var l []*big.Int
	add := func(n *big.Int) {
		for d := int64(-3); d <= 3; d++ {
			l = append(l, new(big.Int).Add(n, big.NewInt(d)))
		}
	}
	for i := range uint(140) {
		add(new(big.Int).Lsh(big.NewInt(1), i))
	}
	ten := big.NewInt(1)
	for range 45 {
		add(ten)
		ten = new(big.Int).Mul(ten, big.NewInt(10))
	}
	for range 3000 {
		l = append(l, big.NewInt(random(r)))
		l = append(l, new(big.Int).Add(new(big.Int).Lsh(big.NewInt(1), 60+uint(r.IntN(70))), big.NewInt(random(r))))
	}
	for _, n := range l {
		n.Abs(n)
		for _, zeros := range []string{"", "0", strings.Repeat("0", 40)} {
			for _, sign := range []string{"", "-", "+"} {
				wantForm(t, list(" "+sign+zeros+n.String()+"\ufeff")...)
			}
			for _, head := range []string{"0x", "0X"} {
				wantForm(t, list(head+zeros+n.Text(16))...)
				wantForm(t, list(head+zeros+strings.ToUpper(n.Text(16))+"\n")...)
			}
		}
	}
}

func TestReadOfLong(t *testing.T) {
	const count = 100000
	zeros, blanks := strings.Repeat("0", count), strings.Repeat(" \n\u2029", count)
	for _, x := range []struct {
		s string
		n int64
		e api.Errno
	}{
		{zeros, 0, api.OK},
		{"-" + zeros + "12", -12, api.OK},
		{"0x" + zeros + "1f", 31, api.OK},
		{"0x" + zeros + "1fffffffffffff", safe, api.OK},
		{zeros + "9007199254740992", 0, api.ErrRange},
		{zeros + "x", 0, api.ErrRange},
		{"1" + zeros, 0, api.ErrRange},
		{"0x1" + zeros, 0, api.ErrRange},
		{strings.Repeat("9", count), 0, api.ErrRange},
		{blanks, 0, api.OK},
		{blanks + "7" + blanks, 7, api.OK},
		{blanks + "7" + blanks + "7", 0, api.ErrRange},
	} {
		wantRead(t, wide(x.s), x.n, x.e)
	}
}

// TestReadAtRandom reads what differs from a number's text in a few units.
func TestReadAtRandom(t *testing.T) {
	r := rand.New(rand.NewPCG(10, 6))
	letters := append(spaces(), list("0123456789abcdefABCDEFxX+-.eg")...)
	for range 200000 {
		l := list(fmt.Sprint(random(r)))
		if r.IntN(3) == 0 {
			l = list(fmt.Sprintf("0x%x", max(random(r), 0)))
		}
		for range r.IntN(4) {
			i := r.IntN(len(l) + 1)
			x := letters[r.IntN(len(letters))]
			l = append(l[:i:i], append([]int{x}, l[i:]...)...)
		}
		wantForm(t, l...)
	}
}

// P10.4

func TestTextIsRead(t *testing.T) {
	r := rand.New(rand.NewPCG(10, 7))
	l := values()
	for range 100000 {
		l = append(l, random(r))
	}
	for _, n := range l {
		if isNumber(big.NewInt(n)) {
			wantRead(t, number.Text(n), n, api.OK)
		} else {
			wantRead(t, number.Text(n), 0, api.ErrRange)
		}
	}
}
