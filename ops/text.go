package ops

import (
	"strconv"
	"strings"

	"credenza/api"
	"credenza/heap"
	"credenza/number"
	"credenza/units"
)

// Text returns the text of v.
func Text(h *heap.Heap, v api.Val) (string, api.Errno) {
	w := writer{heap: h, known: map[place]known{}}
	return w.text(v, 0)
}

// writer writes the texts of the objects of a heap.
type writer struct {
	heap *heap.Heap
	// An Error can have one and the same object as its name and as its message,
	// which can again be such an Error, and so on. Every text is therefore
	// written only once: there could be a million, all of them empty.
	known map[place]known
}

// place is an object, and how many others it is nested within.
type place struct {
	object api.Val
	deep   int
}

// known is the text of an object at a place.
type known struct{ text string }

// adder appends a part to a text unless there is an error instead of it, and
// reports whether further parts may follow.
type adder func(part string, e api.Errno) bool

// text returns the text of v, which is nested within so many objects.
func (w *writer) text(v api.Val, deep int) (string, api.Errno) {
	if v.Kind == api.Ref {
		return w.object(v, deep)
	}
	return plain(v)
}

// plain returns the text of v, which is no object.
func plain(v api.Val) (string, api.Errno) {
	switch v.Kind {
	case api.Null:
		return wide("null"), api.OK
	case api.Bool:
		return wide(strconv.FormatBool(v.N != 0)), api.OK
	case api.Num:
		return number.Text(v.N), api.OK
	case api.Text:
		return build(func(add adder) { add(v.S, api.OK) })
	}
	return wide("undefined"), api.OK
}

// build returns the text of the parts that fill adds to it, or the first error.
func build(fill func(add adder)) (string, api.Errno) {
	var text strings.Builder
	e := api.OK
	left := api.MaxString
	fill(func(part string, failed api.Errno) bool {
		left -= units.Len(part)
		switch {
		case failed != api.OK:
			e = failed
		case left < 0:
			e = api.ErrRange
		default:
			text.WriteString(part)
		}
		return e == api.OK
	})
	if e != api.OK {
		return "", e
	}
	return text.String(), api.OK
}

// object returns the text of an object.
func (w *writer) object(v api.Val, deep int) (string, api.Errno) {
	if deep == api.MaxDeep {
		return "", api.ErrRange
	}
	here := place{v, deep}
	if was, ok := w.known[here]; ok {
		return was.text, api.OK
	}
	text, e := build(func(add adder) { w.addObject(v, deep, add) })
	if e == api.OK {
		w.known[here] = known{text}
	}
	return text, e
}

// addObject adds the parts of the text of an object.
func (w *writer) addObject(v api.Val, deep int, add adder) {
	switch class := w.heap.Class(v); class {
	case arrayClass:
		w.addArray(v, deep, add)
	case errorClass:
		w.addError(v, deep, add)
	case functionClass:
		add(wide("function"), api.OK)
	default:
		add(wide("[object "+class+"]"), api.OK)
	}
}

// addArray adds the texts of the elements of an Array.
func (w *writer) addArray(v api.Val, deep int, add adder) {
	length, _ := w.heap.Len(v)
	for i := range length {
		if i > 0 && !add(wide(","), api.OK) {
			return
		}
		x, _ := w.heap.Get(v, number.Text(int64(i)))
		if !isNothing(x) && !add(w.text(x, deep+1)) {
			return
		}
	}
}

// addError adds the name and the message of an Error.
func (w *writer) addError(v api.Val, deep int, add adder) {
	parts := [...]string{wide("Error"), ""}
	for i, key := range [...]string{"name", "message"} {
		x, _ := w.heap.Get(v, wide(key))
		if x.Kind == api.Undef {
			continue
		}
		part, e := w.text(x, deep+1)
		if e != api.OK {
			add("", e)
			return
		}
		parts[i] = part
	}
	separator := ""
	if parts[0] != "" && parts[1] != "" {
		separator = wide(": ")
	}
	add(parts[0]+separator+parts[1], api.OK)
}

// wide returns the bytes of s as units: also those that units.Of does not take,
// since the class of an object may have any.
func wide(s string) string {
	u := make([]byte, 0, 2*len(s))
	for i := range len(s) {
		u = append(u, 0, s[i])
	}
	return string(u)
}
