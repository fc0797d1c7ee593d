package bits

import (
	"math/bits"

	"maskwright/api"
)

// Not inverts each bit.
func Not(a api.Bits) api.Bits {
	if !valid(a) {
		return api.Bits{}
	}
	one, zero := split(a)
	return join(a.W, zero, one)
}

// And joins the bits of two vectors.
func And(a, b api.Bits) api.Bits {
	if !alike(a, b) {
		return api.Bits{}
	}
	oneA, zeroA := split(a)
	oneB, zeroB := split(b)
	return join(a.W, oneA&oneB, zeroA|zeroB)
}

// Or joins the bits of two vectors.
func Or(a, b api.Bits) api.Bits {
	if !alike(a, b) {
		return api.Bits{}
	}
	oneA, zeroA := split(a)
	oneB, zeroB := split(b)
	return join(a.W, oneA|oneB, zeroA&zeroB)
}

// Xor joins the bits of two vectors.
func Xor(a, b api.Bits) api.Bits {
	if !alike(a, b) {
		return api.Bits{}
	}
	oneA, zeroA := split(a)
	oneB, zeroB := split(b)
	return join(a.W, oneA&zeroB|zeroA&oneB, oneA&oneB|zeroA&zeroB)
}

// RedAnd is the conjunction of all bits.
func RedAnd(a api.Bits) api.Bits {
	return Not(RedOr(Not(a)))
}

// RedOr is the disjunction of all bits.
func RedOr(a api.Bits) api.Bits {
	if !valid(a) {
		return api.Bits{}
	}
	switch True(a) {
	case 0:
		return truth(false)
	case 1:
		return truth(true)
	}
	return All(1, 'x')
}

// RedXor is the parity of all bits.
func RedXor(a api.Bits) api.Bits {
	if !valid(a) {
		return api.Bits{}
	}
	if !Known(a) {
		return All(1, 'x')
	}
	return truth(bits.OnesCount64(a.V)%2 == 1)
}

// LNot inverts a condition.
func LNot(a api.Bits) api.Bits {
	return Not(RedOr(a))
}

// LAnd joins two conditions.
func LAnd(a, b api.Bits) api.Bits {
	return And(RedOr(a), RedOr(b))
}

// LOr joins two conditions.
func LOr(a, b api.Bits) api.Bits {
	return Or(RedOr(a), RedOr(b))
}

// Cond returns a if c is true, b if it is false, and what both agree in otherwise.
func Cond(c, a, b api.Bits) api.Bits {
	if !valid(c) || !alike(a, b) {
		return api.Bits{}
	}
	switch True(c) {
	case 0:
		return b
	case 1:
		return a
	}
	oneA, zeroA := split(a)
	oneB, zeroB := split(b)
	return join(a.W, oneA&oneB, zeroA&zeroB)
}

// Resolve returns what two drivers of one wire make together.
func Resolve(a, b api.Bits) api.Bits {
	if !alike(a, b) {
		return api.Bits{}
	}
	free := floating(a)
	clash := differ(a, b) &^ (free | floating(b))
	return api.Bits{
		W: a.W,
		V: a.V&^free | b.V&free | clash,
		X: a.X&^free | b.X&free | clash,
	}
}

// floating returns the bits of a vector that are z.
func floating(b api.Bits) uint64 {
	return b.X &^ b.V
}

// split returns the bits of a vector that are 1 and those that are 0.
func split(b api.Bits) (one, zero uint64) {
	return b.V &^ b.X, mask(b.W) &^ (b.V | b.X)
}

// join returns the vector that has these bits 1 and these 0, and all others x.
func join(w int, one, zero uint64) api.Bits {
	unknown := mask(w) &^ (one | zero)
	return api.Bits{W: w, V: one | unknown, X: unknown}
}

// truth returns a truth value.
func truth(t bool) api.Bits {
	if t {
		return Of(1, 1)
	}
	return Of(1, 0)
}
