package heap

import (
	"iter"
	"slices"
	"strings"

	"credenza/api"
	"credenza/units"
)

const (
	arrayClass = "Array"
	lengthKey  = "\x00l\x00e\x00n\x00g\x00t\x00h"
)

// object is an object of a heap.
type object struct {
	number int64
	class  string
	proto  *object
	closed bool
	props  map[string]*property

	// ends is no property: the first one is behind it, and the last one ahead of
	// it. The properties are linked in their order, so that one can be removed
	// from among many.
	ends property

	// The rest is that of an Array: its length, whether this is not writable,
	// and the properties by their indices. Several keys can be the same index,
	// since keys that are no strings of units can be indices, too.
	length  int
	fixed   bool
	indexed map[int][]*property
}

// property is a property of an object, between the one ahead of it and the one
// behind it.
type property struct {
	api.Prop
	ahead, behind *property
}

// newObject returns an object without properties.
func newObject(number int64, class string, proto *object) *object {
	o := &object{
		number:  number,
		class:   strings.Clone(class),
		proto:   proto,
		props:   map[string]*property{},
		indexed: map[int][]*property{},
	}
	o.ends.ahead, o.ends.behind = &o.ends, &o.ends
	return o
}

func (o *object) value() api.Val {
	return api.Val{Kind: api.Ref, N: o.number}
}

func (o *object) isArray() bool {
	return o.class == arrayClass
}

// isLength reports whether the key denotes the length of an Array in o.
func (o *object) isLength(key string) bool {
	return o.isArray() && key == lengthKey
}

// index returns the index that the key is in o, and whether it is one.
func (o *object) index(key string) (int, bool) {
	if !o.isArray() {
		return 0, false
	}
	i, ok := units.Index(key)
	return int(i), ok
}

// all goes through the own properties of o in order. The length of an Array is
// not one of them.
func (o *object) all() iter.Seq[*property] {
	return func(yield func(*property) bool) {
		for p := o.ends.behind; p != &o.ends; p = p.behind {
			if !yield(p) {
				return
			}
		}
	}
}

// own returns the own property of o with this key, which may be the length of
// an Array, and whether there is one.
func (o *object) own(key string) (api.Prop, bool) {
	if o.isLength(key) {
		return api.Prop{Key: key, V: o.lengthValue(), Write: !o.fixed}, true
	}
	p := o.props[key]
	if p == nil {
		return api.Prop{}, false
	}
	return p.Prop, true
}

// append makes a copy of p the last property of o, which has none with its key.
func (o *object) append(p api.Prop) {
	added := &property{Prop: copyProp(p), ahead: o.ends.ahead, behind: &o.ends}
	added.ahead.behind, added.behind.ahead = added, added
	o.props[added.Key] = added
	if i, ok := o.index(added.Key); ok {
		o.indexed[i] = append(o.indexed[i], added)
		o.length = max(o.length, i+1)
	}
}

// remove removes p, which is one of the properties of o.
func (o *object) remove(p *property) {
	p.ahead.behind, p.behind.ahead = p.behind, p.ahead
	delete(o.props, p.Key)
	if i, ok := o.index(p.Key); ok {
		o.indexed[i] = slices.DeleteFunc(o.indexed[i], func(other *property) bool { return other == p })
	}
}

// put assigns x to p.
func (p *property) put(x api.Val) api.Errno {
	if !p.Write {
		return api.ErrType
	}
	p.V = copyVal(x)
	return api.OK
}

// define makes p what to says, as far as p may change.
func (p *property) define(to api.Prop) api.Errno {
	if !p.Free {
		if to.Free || to.Enum != p.Enum {
			return api.ErrType
		}
		if !p.Write && (to.Write || to.V != p.V) {
			return api.ErrType
		}
	}
	p.Prop = copyProp(to)
	return api.OK
}

func (o *object) lengthValue() api.Val {
	return api.Val{Kind: api.Num, N: int64(o.length)}
}

// putLength assigns x to the length of the Array o.
func (o *object) putLength(x api.Val) api.Errno {
	if o.fixed {
		return api.ErrType
	}
	return o.setLength(x)
}

// defineLength makes the length of the Array o what p says, as far as it may
// change.
func (o *object) defineLength(p api.Prop) api.Errno {
	if p.Enum || p.Free {
		return api.ErrType
	}
	if o.fixed && (p.Write || p.V != o.lengthValue()) {
		return api.ErrType
	}
	if e := o.setLength(p.V); e != api.OK {
		return e
	}
	o.fixed = !p.Write
	return api.OK
}

// setLength truncates the Array o to x, or makes it as long.
func (o *object) setLength(x api.Val) api.Errno {
	if x.Kind != api.Num || x.N < 0 || x.N > api.MaxArray {
		return api.ErrRange
	}
	length := int(x.N)
	for i := o.length - 1; i >= length; i-- {
		if !o.removeIndex(i) {
			o.length = i + 1
			return api.ErrType
		}
	}
	o.length = length
	return api.OK
}

// removeIndex removes the properties of the Array o whose keys are the index i,
// and reports whether all of them were configurable.
func (o *object) removeIndex(i int) bool {
	for _, p := range slices.Clone(o.indexed[i]) {
		if !p.Free {
			return false
		}
		o.remove(p)
	}
	return true
}
