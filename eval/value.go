package eval

import (
	"maskwright/api"
	"maskwright/bits"
)

// value returns the value of an expression.
func (c *scope) value(e *api.Expr) api.Bits {
	switch e.Op {
	case api.Const:
		return e.N
	case api.Now:
		return bits.Of(e.W, c.run.now)
	case api.Ref, api.Elem:
		k, ok := c.which(e)
		if !ok {
			return bits.All(e.W, 'x')
		}
		return c.element(e.Sig, k)
	case api.Call:
		args := c.list(e.Kids)
		return c.run.call(e.At, args)
	case api.Cat:
		return bits.Cat(c.list(e.Kids))
	}
	a := c.value(&e.Kids[0])
	if len(e.Kids) == 1 {
		return unary(e)(a)
	}
	b := c.value(&e.Kids[1])
	if e.Op == api.Cond {
		return bits.Cond(a, b, c.value(&e.Kids[2]))
	}
	return binary(e)(a, b)
}

// list returns the values of expressions.
func (c *scope) list(l []api.Expr) []api.Bits {
	values := make([]api.Bits, len(l))
	for i := range l {
		values[i] = c.value(&l[i])
	}
	return values
}

// which returns the number of the element that a Ref or an Elem names; false if there is none.
func (c *scope) which(e *api.Expr) (int, bool) {
	if e.Op == api.Ref {
		return 0, true
	}
	k, ok := c.number(&e.Kids[0], api.MaxElems)
	return k, ok && k >= 0 && k < c.signals[e.Sig].Elems
}

// number returns the number that an expression has, its signed number if it is Signed, limited to -most and most; false if it is not known.
func (c *scope) number(e *api.Expr, most int) (int, bool) {
	b := c.value(e)
	if e.Signed {
		n, ok := bits.Int(b)
		return int(max(-int64(most), min(n, int64(most)))), ok
	}
	n, ok := bits.Uint(b)
	return int(min(n, uint64(most))), ok
}

// unary returns what an operation with one kid does.
func unary(e *api.Expr) func(a api.Bits) api.Bits {
	switch e.Op {
	case api.Not:
		return bits.Not
	case api.Neg:
		return bits.Neg
	case api.RedAnd:
		return bits.RedAnd
	case api.RedOr:
		return bits.RedOr
	case api.RedXor:
		return bits.RedXor
	case api.LNot:
		return bits.LNot
	case api.Slice:
		return func(a api.Bits) api.Bits { return bits.Slice(a, e.At, e.W) }
	case api.Rep:
		return func(a api.Bits) api.Bits { return bits.Rep(a, e.At) }
	}
	return func(a api.Bits) api.Bits { return bits.Resize(a, e.W, e.Signed) }
}

// binary returns what an operation with two kids does.
func binary(e *api.Expr) func(a, b api.Bits) api.Bits {
	switch e.Op {
	case api.Part:
		return func(a, b api.Bits) api.Bits { return bits.Part(a, b, e.Kids[1].Signed, e.W) }
	case api.LAnd:
		return bits.LAnd
	case api.LOr:
		return bits.LOr
	case api.And:
		return bits.And
	case api.Or:
		return bits.Or
	case api.Xor:
		return bits.Xor
	case api.Add:
		return bits.Add
	case api.Sub:
		return bits.Sub
	case api.Mul:
		return bits.Mul
	case api.Shl:
		return bits.Shl
	case api.Shr:
		return bits.Shr
	case api.Sar:
		return bits.Sar
	}
	return comparison(e)
}

// comparison returns what an operation does that compares its kids, or divides them.
func comparison(e *api.Expr) func(a, b api.Bits) api.Bits {
	signed := func(f func(a, b api.Bits, signed bool) api.Bits) func(a, b api.Bits) api.Bits {
		return func(a, b api.Bits) api.Bits { return f(a, b, e.Signed) }
	}
	switch e.Op {
	case api.Eq:
		return bits.Eq
	case api.Ne:
		return bits.Ne
	case api.CaseEq:
		return bits.CaseEq
	case api.CaseNe:
		return bits.CaseNe
	case api.Lt:
		return signed(bits.Lt)
	case api.Le:
		return signed(bits.Le)
	case api.Div:
		return signed(bits.Div)
	}
	return signed(bits.Mod)
}
