package width

import (
	"math"
	mathbits "math/bits"

	"maskwright/api"
	"maskwright/bits"
	S "maskwright/syntax"
)

// Ways to set a place.
const (
	never  = iota // it is an array, a constant, or what no assignment can reach
	whole         // it is a signal or an element
	fixed         // it has always the same bits of one
	moving        // it has bits of one from a variable bit on
)

// place is what a name with selections stands for.
type place struct {
	name  string // of the thing
	thing Thing
	array bool // it has elements, and no value
	typ   Type
	value api.Expr
	way   int
}

// isPlace reports whether a node is a place.
func isPlace(n S.Node) bool {
	return n.Kind == S.Name || selects(n)
}

// selects reports whether a node selects a part of its first kid.
func selects(n S.Node) bool {
	return n.Kind == S.Select || n.Kind == S.Index || n.Kind == S.Slice || n.Kind == S.Part
}

// Root returns the name of the signal that a target of one signal names.
func Root(n S.Node) string {
	for selects(n) && len(n.Kids) > 0 {
		n = n.Kids[0]
	}
	if n.Kind != S.Name {
		return ""
	}
	return n.Name
}

// placed looks at a place as an expression.
func (env Env) placed(n S.Node) (part, Fault) {
	p, f := env.place(n)
	switch {
	case f.Code != api.OK:
		return part{}, f
	case p.array:
		return part{}, fault(n, api.ErrType, p.name)
	}
	return alone(p.value, p.typ.Signed), Fault{}
}

// place looks at a place.
func (env Env) place(n S.Node) (place, Fault) {
	switch {
	case !hasForm(n):
		return place{}, fault(n, api.ErrForm, "")
	case n.Kind == S.Name:
		return env.named(n, n.Name)
	case n.Kind == S.Select && env.isGroup(n.Kids[0]):
		return env.named(n, n.Kids[0].Name+"."+n.Name)
	case !isPlace(n.Kids[0]):
		return place{}, fault(n.Kids[0], api.ErrType, "")
	}
	p, f := env.place(n.Kids[0])
	if f.Code != api.OK {
		return place{}, f
	}
	kids, f := env.parts(n.Kids[1:])
	switch {
	case f.Code != api.OK:
		return place{}, f
	case p.array && n.Kind == S.Index:
		return env.element(p, kids[0])
	case p.array:
		return place{}, fault(n, api.ErrType, p.name)
	case n.Kind == S.Select:
		return p.field(n)
	case n.Kind == S.Slice:
		return env.slice(p, kids[0], kids[1])
	}
	return env.from(p, kids)
}

// isGroup reports whether a node is the name of a group.
func (env Env) isGroup(n S.Node) bool {
	t, ok := env.Names[n.Name]
	return n.Kind == S.Name && ok && t.Kind == Group
}

// named returns the thing with a name as a place.
func (env Env) named(n S.Node, name string) (place, Fault) {
	t, ok := env.Names[name]
	p := place{name: name, thing: t, typ: t.Type}
	switch {
	case !ok:
		return place{}, fault(n, api.ErrNone, name)
	case t.Kind == Const:
		p.value = Constant(t.Value, t.Type.Signed)
	case t.Kind != Signal:
		return place{}, fault(n, api.ErrType, name)
	case t.Array:
		p.array = true
	default:
		p.value, p.way = p.ref(api.Ref), whole
	}
	return p, Fault{}
}

// ref returns a Ref or an Elem of the signal.
func (p place) ref(op int, kids ...api.Expr) api.Expr {
	return api.Expr{Op: op, W: p.thing.Type.W, Signed: p.thing.Type.Signed, Sig: p.thing.Sig, Local: p.thing.Local, Kids: kids}
}

// element returns an element of an array.
func (env Env) element(p place, at part) (place, Fault) {
	index, f := env.index(at, p.thing.First, p.thing.Elems)
	if f.Code != api.OK {
		return place{}, f
	}
	p.value, p.way, p.array = p.ref(api.Elem, index), whole, false
	return p, Fault{}
}

// field returns the field that a node selects.
func (p place) field(n S.Node) (place, Fault) {
	for _, x := range p.typ.Fields {
		if x.Name == n.Name {
			return p.bits(x.At, x.Type), Fault{}
		}
	}
	return place{}, fault(n, api.ErrNone, n.Name)
}

// slice returns the bits from the number lo up to the number hi.
func (env Env) slice(p place, hi, lo part) (place, Fault) {
	least := int64(p.typ.Lsb)
	to, f := env.integer(hi, least, last(p.typ.Lsb, p.typ.W))
	if f.Code != api.OK {
		return place{}, f
	}
	from, f := env.integer(lo, least, to)
	if f.Code != api.OK {
		return place{}, f
	}
	return p.bits(int(from-least), Type{W: int(to-from) + 1}), Fault{}
}

// from returns one bit of a place, or, with a second kid, as many as this one says, from the bit on that the first one says.
func (env Env) from(p place, kids []part) (place, Fault) {
	w := 1
	if len(kids) > 1 {
		count, f := env.integer(kids[1], 1, int64(p.typ.W))
		if f.Code != api.OK {
			return place{}, f
		}
		w = int(count)
	}
	index, f := env.index(kids[0], p.typ.Lsb, p.typ.W)
	switch {
	case f.Code != api.OK:
		return place{}, f
	case index.Op != api.Const:
		return p.moved(index, w), Fault{}
	}
	at := int(index.N.V)
	if at+w > p.typ.W {
		return place{}, fault(kids[0].node, api.ErrRange, "")
	}
	return p.bits(at, Type{W: w}), Fault{}
}

// bits returns the part of a place from a bit on that has a type.
func (p place) bits(at int, t Type) place {
	of := p.value
	if of.Op == api.Slice {
		at += of.At
		of = of.Kids[0]
	}
	p.value = api.Expr{Op: api.Slice, W: t.W, Signed: t.Signed, At: at, Kids: []api.Expr{of}}
	p.typ = t
	switch p.way {
	case whole:
		p.way = fixed
	case moving:
		p.way = never
	}
	return p
}

// moved returns w bits of a place from a variable bit on.
func (p place) moved(index api.Expr, w int) place {
	p.value = api.Expr{Op: api.Part, W: w, Kids: []api.Expr{p.value, index}}
	p.typ = Type{W: w}
	if p.way == whole {
		p.way = moving
	} else {
		p.way = never
	}
	return p
}

// last returns the number of the last one of things that are numbered from first on. Constants have no numbers beyond the greatest one.
func last(first, count int) int64 {
	if first > math.MaxInt64-count {
		return math.MaxInt64
	}
	return int64(first + count - 1)
}

// index returns what selects one of things that are numbered from first on: a Const if it is constant, and otherwise something else.
func (env Env) index(p part, first, count int) (api.Expr, Fault) {
	greatest := last(first, count)
	e := p.own()
	if !isOpen(e) {
		v, f := env.integer(p, int64(first), greatest)
		if f.Code != api.OK {
			return api.Expr{}, f
		}
		at := uint64(v) - uint64(first)
		return Constant(bits.Of(max(1, mathbits.Len64(at)), at), false), Fault{}
	}
	w := mathbits.Len64(uint64(max(0, greatest)))
	if p.signed {
		w++
	}
	e = resized(e, max(w, p.w), p.signed)
	if e.Signed {
		// A signed index would be a number below 0 where the highest bit is 1.
		e = api.Expr{Op: api.Slice, W: e.W, Kids: []api.Expr{e}}
	}
	if first != 0 {
		e = api.Expr{Op: api.Sub, W: e.W, Kids: []api.Expr{e, Constant(bits.Of(e.W, uint64(first)), false)}}
	}
	return e, Fault{}
}

// Target returns what an assignment sets.
func Target(n S.Node, env Env) (api.Expr, Fault) {
	switch {
	case n.Kind == S.Cat:
		return env.targets(n)
	case !isPlace(n):
		return api.Expr{}, fault(n, api.ErrType, "")
	}
	p, f := env.place(n)
	switch {
	case f.Code != api.OK:
		return api.Expr{}, f
	case p.way == never:
		return api.Expr{}, fault(n, api.ErrType, p.name)
	}
	return p.value, Fault{}
}

// targets returns the targets of a Cat as one.
func (env Env) targets(n S.Node) (api.Expr, Fault) {
	e := api.Expr{Op: api.Cat}
	for _, kid := range n.Kids {
		to, f := Target(kid, env)
		if f.Code != api.OK {
			return api.Expr{}, f
		}
		e.W += to.W
		e.Kids = append(e.Kids, to)
	}
	if e.W > api.MaxWidth {
		return api.Expr{}, fault(n, api.ErrLarge, "")
	}
	return e, Fault{}
}
