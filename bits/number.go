package bits

import (
	"maskwright/api"
)

// Neg returns the negative number.
func Neg(a api.Bits) api.Bits {
	return Sub(Of(a.W, 0), a)
}

// Add returns the sum.
func Add(a, b api.Bits) api.Bits {
	return compute(a, b, func(x, y uint64) uint64 { return x + y })
}

// Sub returns the difference.
func Sub(a, b api.Bits) api.Bits {
	return compute(a, b, func(x, y uint64) uint64 { return x - y })
}

// Mul returns the product.
func Mul(a, b api.Bits) api.Bits {
	return compute(a, b, func(x, y uint64) uint64 { return x * y })
}

// Div returns the quotient.
func Div(a, b api.Bits, signed bool) api.Bits {
	return divide(a, b, func(x, y uint64) uint64 {
		if signed {
			return uint64(extend(a.W, x) / extend(b.W, y))
		}
		return x / y
	})
}

// Mod returns the remainder.
func Mod(a, b api.Bits, signed bool) api.Bits {
	return divide(a, b, func(x, y uint64) uint64 {
		if signed {
			return uint64(extend(a.W, x) % extend(b.W, y))
		}
		return x % y
	})
}

// Shl moves bits up.
func Shl(a, n api.Bits) api.Bits {
	return shift(a, n, func(v, by uint64) uint64 { return v << by })
}

// Shr moves bits down.
func Shr(a, n api.Bits) api.Bits {
	return shift(a, n, func(v, by uint64) uint64 { return v >> by })
}

// Sar moves bits down and keeps the highest one.
func Sar(a, n api.Bits) api.Bits {
	return shift(a, n, func(v, by uint64) uint64 { return uint64(extend(a.W, v) >> by) })
}

// compute applies f to the numbers of two vectors; without both numbers all bits are x.
func compute(a, b api.Bits, f func(x, y uint64) uint64) api.Bits {
	if !alike(a, b) {
		return api.Bits{}
	}
	if !Known(a) || !Known(b) {
		return All(a.W, 'x')
	}
	return Of(a.W, f(a.V, b.V))
}

// divide is compute for an f that has no result for the divisor 0.
func divide(a, b api.Bits, f func(x, y uint64) uint64) api.Bits {
	if alike(a, b) && b.V == 0 {
		return All(a.W, 'x')
	}
	return compute(a, b, f)
}

// shift applies move to both words of a, so that x and z are moved as 0 and 1 are.
func shift(a, n api.Bits, move func(v, by uint64) uint64) api.Bits {
	if !valid(a) || !valid(n) {
		return api.Bits{}
	}
	by, known := Uint(n)
	if !known {
		return All(a.W, 'x')
	}
	return api.Bits{W: a.W, V: move(a.V, by) & mask(a.W), X: move(a.X, by) & mask(a.W)}
}
