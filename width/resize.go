package width

import (
	"slices"

	"maskwright/api"
	"maskwright/bits"
)

// Resized cuts or extends an expression.
func Resized(e api.Expr, w int, signed bool) api.Expr {
	return resized(clone(e), w, signed)
}

// clone returns an expression in new memory.
func clone(e api.Expr) api.Expr {
	e.Kids = slices.Clone(e.Kids)
	for i, kid := range e.Kids {
		e.Kids[i] = clone(kid)
	}
	return e
}

// resized cuts or extends an expression; the result shares memory with it.
func resized(e api.Expr, w int, signed bool) api.Expr {
	switch {
	case e.W == w:
		return e
	case e.Op == api.Const:
		return Constant(bits.Resize(e.N, w, signed), signed)
	case e.W < w:
		return extended(e, w, signed)
	case e.Op == api.Resize && len(e.Kids) == 1:
		return resized(e.Kids[0], w, e.Signed)
	}
	first, last := lowest(e)
	if first == last {
		return extended(e, w, signed)
	}
	e.W, e.Kids = w, slices.Clone(e.Kids)
	for i := first; i < min(last, len(e.Kids)); i++ {
		e.Kids[i] = resized(e.Kids[i], w, signed)
	}
	return e
}

// extended returns a Resize of an expression.
func extended(e api.Expr, w int, signed bool) api.Expr {
	return api.Expr{Op: api.Resize, W: w, Signed: signed, Kids: []api.Expr{e}}
}

// lowest returns the numbers of the first kid, and of that behind the last one, whose lowest bits are all that the lowest bits of an operation depend on; other kids matter as a whole. Both are equal if there are none.
func lowest(e api.Expr) (int, int) {
	switch e.Op {
	case api.Not, api.Neg, api.Shl:
		return 0, 1
	case api.Add, api.Sub, api.Mul, api.And, api.Or, api.Xor:
		return 0, 2
	case api.Cond:
		return 1, 3
	}
	return 0, 0
}
