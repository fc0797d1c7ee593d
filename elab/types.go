package elab

import (
	mathbits "math/bits"

	"maskwright/api"
	"maskwright/bits"
	S "maskwright/syntax"
	"maskwright/width"
)

// greatest is the greatest number that an item of an enumeration can be given.
const greatest = 1 << 62

// typ returns the type that a node names or describes.
func (m *maker) typ(s *scope, n S.Node) width.Type {
	if n.Kind == S.TypeName {
		t := s.find(n.Name)
		if t.kind != vector {
			fail(n, api.ErrNone, n.Name)
		}
		return t.typ
	}
	t := width.Type{W: 1}
	if n.Kids[0].Kind != S.None {
		t = m.bitsOf(s, n.Kids[0])
	}
	t.Signed = n.Signed
	return t
}

// bitsOf returns the vector that a Range describes.
func (m *maker) bitsOf(s *scope, n S.Node) width.Type {
	hi, lo := m.bounds(s, n)
	if lo > hi {
		fail(n, api.ErrRange, "")
	}
	if hi-lo >= api.MaxWidth {
		fail(n, api.ErrLarge, "")
	}
	return width.Type{W: hi - lo + 1, Lsb: lo}
}

// bounds returns both numbers of a Range.
func (m *maker) bounds(s *scope, n S.Node) (int, int) {
	first := m.integer(s, n.Kids[0], 0, MaxIndex)
	second := m.integer(s, n.Kids[1], 0, MaxIndex)
	return int(first), int(second)
}

// whole returns a signal of a type, that is no array.
func whole(t width.Type) width.Thing {
	return width.Thing{Kind: width.Signal, Type: t, Elems: 1}
}

// extent returns a signal of a type, which is an array if there is a Range.
func (m *maker) extent(s *scope, n S.Node, t width.Type) width.Thing {
	x := whole(t)
	if n.Kind == S.None {
		return x
	}
	first, last := m.bounds(s, n)
	if first > last {
		fail(n, api.ErrRange, "")
	}
	if last-first >= api.MaxElems {
		fail(n, api.ErrLarge, "")
	}
	x.Array, x.First, x.Elems = true, first, last-first+1
	return x
}

// enum declares an enumeration and its items.
func (m *maker) enum(s *scope, n S.Node) {
	t := m.bitsOf(s, n.Kids[0])
	s.declare(n, thing{kind: vector, typ: t})
	next, used := uint64(0), map[uint64]bool{}
	for _, item := range n.Kids[1:] {
		if item.Kids[0].Kind != S.None {
			next = uint64(m.integer(s, item.Kids[0], 0, greatest))
		}
		if mathbits.Len64(next) > t.W {
			fail(item, api.ErrRange, item.Name)
		}
		if used[next] {
			fail(item, api.ErrTwice, item.Name)
		}
		used[next] = true
		value := width.Thing{Kind: width.Const, Value: bits.Of(t.W, next), Type: t}
		s.declare(item, thing{kind: constant, value: value})
		next++ // far from the end: there are not enough items to reach it from the greatest number
	}
}

// structure declares a structure.
func (m *maker) structure(s *scope, n S.Node) {
	t, used := width.Type{}, map[string]bool{}
	for _, f := range n.Kids {
		x := width.Field{Name: f.Name, Type: m.typ(s, f.Kids[0])}
		if used[f.Name] {
			fail(f, api.ErrTwice, f.Name)
		}
		used[f.Name] = true
		t.W += x.Type.W
		if t.W > api.MaxWidth {
			fail(f, api.ErrLarge, f.Name)
		}
		t.Fields = append(t.Fields, x)
	}
	at := t.W
	for i := range t.Fields {
		at -= t.Fields[i].Type.W
		t.Fields[i].At = at
	}
	s.declare(n, thing{kind: vector, typ: t})
}
