package ops_test

import (
	"fmt"
	"strconv"
	"strings"
	"testing"

	"credenza/api"
	"credenza/heap"
	"credenza/ops"
)

// wide returns the runes of s as units.
func wide(s string) string {
	var u []byte
	for _, x := range s {
		u = append(u, byte(x>>8), byte(x))
	}
	return string(u)
}

// thing is a value by other means: its texts are told by their runes, and an object
// is told by what it has, in which nothing goes round in a circle.
type thing struct {
	kind  int
	n     int64
	s     string
	class string  // of an object
	l     []thing // the elements of an Array, or the name and the message of an Error
}

// hole is what an Array or an Error does not have.
var hole = thing{kind: -1}

var (
	undef = thing{kind: api.Undef}
	null  = thing{kind: api.Null}
	no    = thing{kind: api.Bool}
	yes   = thing{kind: api.Bool, n: 1}
)

func num(n int64) thing         { return thing{kind: api.Num, n: n} }
func text(s string) thing       { return thing{kind: api.Text, s: s} }
func object(class string) thing { return thing{kind: api.Ref, class: class} }
func list(l ...thing) thing     { return thing{kind: api.Ref, class: "Array", l: l} }
func fault(name, message thing) thing {
	return thing{kind: api.Ref, class: "Error", l: []thing{name, message}}
}

// long is a text of so many units.
func long(count int) thing { return text(strings.Repeat("x", count)) }

// nest puts x into so many objects, each of which is made by the next of these.
func nest(x thing, count int, around ...func(thing) thing) thing {
	for i := range count {
		x = around[i%len(around)](x)
	}
	return x
}

// The ways to put a value into an object.
func inList(x thing) thing    { return list(x) }
func inName(x thing) thing    { return fault(x, hole) }
func inMessage(x thing) thing { return fault(hole, x) }

// val makes the value in a heap.
func (x thing) val(h *heap.Heap) api.Val {
	if x.kind != api.Ref {
		return api.Val{Kind: x.kind, N: x.n, S: wide(x.s)}
	}
	v, _ := h.Make(x.class, api.Val{Kind: api.Null})
	for i, y := range x.l {
		key := strconv.Itoa(i)
		if x.class == "Error" {
			key = []string{"name", "message"}[i]
		}
		if y.kind != hole.kind {
			h.Put(v, wide(key), y.val(h))
		}
	}
	if x.class == "Array" {
		h.Put(v, wide("length"), num(int64(len(x.l))).val(h))
	}
	return v
}

// String tells the thing in a message of a test.
func (x thing) String() string {
	switch x.kind {
	case hole.kind:
		return ""
	case api.Undef:
		return "undefined"
	case api.Null:
		return "null"
	case api.Bool:
		return strconv.FormatBool(x.n == 1)
	case api.Num:
		return strconv.FormatInt(x.n, 10)
	case api.Text:
		return fmt.Sprintf("%.40q", x.s)
	}
	return fmt.Sprintf("%.40s%.200s", x.class, fmt.Sprint(x.l))
}

// write returns the text of the thing, however long it is, the number of units of
// the longest text that is in it, and how many objects are in one another. It knows
// no limit.
func (x thing) write() (s string, most, deep int) {
	switch {
	case x.kind == api.Text:
		s = x.s
	case x.kind != api.Ref:
		s = x.String()
	case x.class == "Array":
		s, most, deep = writeList(x.l)
	case x.class == "Error":
		s, most, deep = writeFault(x.l[0], x.l[1])
	case x.class == "Function":
		s = "function"
	default:
		s = "[object " + x.class + "]"
	}
	if x.kind == api.Ref {
		deep++
	}
	return s, max(most, len([]rune(s))), deep
}

func writeList(l []thing) (s string, most, deep int) {
	var texts []string
	for _, x := range l {
		if x.kind == api.Null || x.isAbsent() {
			x = text("")
		}
		s, m, d := x.write()
		texts = append(texts, s)
		most, deep = max(most, m), max(deep, d)
	}
	return strings.Join(texts, ","), most, deep
}

func writeFault(name, message thing) (s string, most, deep int) {
	if name.isAbsent() {
		name = text("Error")
	}
	if message.isAbsent() {
		message = text("")
	}
	a, most, deep := name.write()
	b, m, d := message.write()
	s = a + ": " + b
	if a == "" || b == "" {
		s = a + b
	}
	return s, max(most, m), max(deep, d)
}

// isAbsent reports whether it makes no difference that an object has the thing.
func (x thing) isAbsent() bool {
	return x.kind == api.Undef || x.kind == hole.kind
}

// limited returns the text of the thing as units, or ErrRange where it has none.
func (x thing) limited() (string, api.Errno) {
	s, most, deep := x.write()
	if most > 4096 || deep > 20 {
		return "", api.ErrRange
	}
	return wide(s), api.OK
}

// wantText holds Text against a text whose runes are told.
func wantText(t *testing.T, x thing, want string) {
	t.Helper()
	h := heap.New(100000)
	if got, e := ops.Text(h, x.val(h)); got != wide(want) || e != api.OK {
		t.Errorf("Text(%v): got %.200q, %d, want %.100q", x, got, e, want)
	}
}

// wantNoText wants Text to be ErrRange.
func wantNoText(t *testing.T, x thing) {
	t.Helper()
	h := heap.New(100000)
	if got, e := ops.Text(h, x.val(h)); got != "" || e != api.ErrRange {
		t.Errorf("Text(%v): got %.200q, %d, want ErrRange", x, got, e)
	}
}
