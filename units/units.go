// Package units is layer 1: strings of 16-bit code units. A unit takes two
// bytes of a Go string, the higher one first.
package units

import (
	"strconv"
	"strings"

	"credenza/api"
)

// The units from firstNamed on have an escape sequence with a letter of their own.
const (
	firstNamed   = 8
	namedLetters = "btnvfr"
)

const hexDigits = "0123456789abcdef"

// nothing is what an escape sequence stands for that denotes no unit.
const nothing = -1

// Check reports whether u is a string of units.
func Check(u string) bool {
	return len(u)%2 == 0
}

// Of returns the bytes of s as units.
func Of(s string) (string, api.Errno) {
	u := make([]byte, 0, 2*len(s))
	for i := range len(s) {
		if s[i] > 127 {
			return "", api.ErrForm
		}
		u = appendUnit(u, int(s[i]))
	}
	return string(u), api.OK
}

// Len returns the number of units of u.
func Len(u string) int {
	return len(u) / 2
}

// At returns the unit of u with the index i, or -1 if there is none.
func At(u string, i int) int {
	if i < 0 || i >= Len(u) {
		return -1
	}
	return int(u[2*i])<<8 | int(u[2*i+1])
}

// Cut returns the units of u from the index from up to, but not including, the
// index to.
func Cut(u string, from, to int) string {
	from, to = max(from, 0), min(to, Len(u))
	if from >= to {
		return ""
	}
	// A result shares no memory with an argument, so a short piece does not
	// hold on to a long string either.
	return strings.Clone(u[2*from : 2*to])
}

// Find returns the least index, not less than from, at which v occurs in u, or
// -1 if there is none.
func Find(u, v string, from int) int {
	v = v[:2*Len(v)]
	last := Len(u) - Len(v)
	for i := max(from, 0); i <= last; i++ {
		if strings.HasPrefix(u[2*i:], v) {
			return i
		}
	}
	return -1
}

// Index returns the number whose decimal digits are u, and whether u is that of
// a number with at most nine digits, none of them a leading zero.
func Index(u string) (int64, bool) {
	count := Len(u)
	if count == 0 || count > 9 || count > 1 && At(u, 0) == '0' {
		return 0, false
	}
	number := int64(0)
	for i := range count {
		digit := At(u, i) - '0'
		if digit < 0 || digit > 9 {
			return 0, false
		}
		number = 10*number + int64(digit)
	}
	return number, true
}

// Quote returns a literal that denotes u.
func Quote(u string) (string, api.Errno) {
	if !Check(u) {
		return "", api.ErrForm
	}
	s := append(make([]byte, 0, Len(u)+2), '"')
	for i := range Len(u) {
		s = appendQuoted(s, At(u, i))
	}
	return string(append(s, '"')), api.OK
}

// Read returns the units that the literal at the beginning of s denotes, and
// the number of bytes of the literal.
func Read(s string) (string, int, api.Errno) {
	if s == "" || s[0] != '\'' && s[0] != '"' {
		return "", 0, api.ErrForm
	}
	var u []byte
	at := 1
	for at < len(s) && s[at] != s[0] {
		unit, size := readUnit(s[at:])
		if size == 0 {
			return "", 0, api.ErrForm
		}
		if unit != nothing {
			u = appendUnit(u, unit)
		}
		at += size
	}
	if at == len(s) {
		return "", 0, api.ErrForm
	}
	return string(u), at + 1, api.OK
}

func appendUnit(u []byte, unit int) []byte {
	return append(u, byte(unit>>8), byte(unit))
}

// appendQuoted appends to a literal what denotes the unit.
func appendQuoted(s []byte, unit int) []byte {
	switch {
	case unit == '"' || unit == '\\':
		return append(s, '\\', byte(unit))
	// \v could be read, but the literal is to have \u000b for this unit.
	case unit >= firstNamed && unit < firstNamed+len(namedLetters) && unit != '\v':
		return append(s, '\\', namedLetters[unit-firstNamed])
	case unit < 32 || unit > 126:
		return append(s, '\\', 'u', hexDigits[unit>>12], hexDigits[unit>>8&15],
			hexDigits[unit>>4&15], hexDigits[unit&15])
	}
	return append(s, byte(unit))
}

// readUnit returns the unit that the beginning of s, which is within a literal
// and not empty, stands for, and the number of bytes that stand for it: 0 if
// they may not stand in a literal.
func readUnit(s string) (unit, size int) {
	switch {
	case s[0] == '\\':
		return readEscape(s)
	case s[0] == '\n' || s[0] == '\r' || s[0] > 127:
		return 0, 0
	}
	return int(s[0]), 1
}

// readEscape is readUnit for an s that begins with a backslash.
func readEscape(s string) (unit, size int) {
	if len(s) < 2 {
		return 0, 0
	}
	c := s[1]
	switch {
	case c == 'x':
		return readHex(s, 2)
	case c == 'u':
		return readHex(s, 4)
	case c == '\n':
		return nothing, 2
	case c == '0' && !(len(s) > 2 && isDigit(s[2])):
		return 0, 2
	case isDigit(c) || c == '\r' || c > 127:
		return 0, 0
	}
	if i := strings.IndexByte(namedLetters, c); i >= 0 {
		return firstNamed + i, 2
	}
	return int(c), 2
}

// readHex is readEscape for an escape sequence with so many hexadecimal digits.
func readHex(s string, digits int) (unit, size int) {
	size = 2 + digits
	if len(s) < size {
		return 0, 0
	}
	// With the base given, ParseUint takes no sign, no prefix and no underscore.
	n, err := strconv.ParseUint(s[2:size], 16, 16)
	if err != nil {
		return 0, 0
	}
	return int(n), size
}

func isDigit(c byte) bool {
	return '0' <= c && c <= '9'
}
