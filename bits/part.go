package bits

import (
	"slices"

	"maskwright/api"
)

// Cat joins vectors; the first one is the highest part.
func Cat(l []api.Bits) api.Bits {
	var c api.Bits
	for _, b := range l {
		if !valid(b) || c.W+b.W > api.MaxWidth {
			return api.Bits{}
		}
		c = api.Bits{W: c.W + b.W, V: c.V<<b.W | b.V, X: c.X<<b.W | b.X}
	}
	return c
}

// Rep joins n copies of a vector.
func Rep(a api.Bits, n int) api.Bits {
	if n < 1 || n > api.MaxWidth {
		return api.Bits{}
	}
	return Cat(slices.Repeat([]api.Bits{a}, n))
}

// Slice returns w bits from bit at on.
func Slice(b api.Bits, at, w int) api.Bits {
	if !valid(b) || w < 1 || at < 0 || at > b.W-w {
		return api.Bits{}
	}
	return api.Bits{W: w, V: b.V >> at & mask(w), X: b.X >> at & mask(w)}
}

// Part returns w bits from a variable position on; bits outside are x.
func Part(b, at api.Bits, signed bool, w int) api.Bits {
	if !valid(b) || !valid(at) {
		return api.Bits{}
	}
	if !Known(at) {
		return All(w, 'x')
	}
	// Further away than MaxWidth there is no bit either, and -from cannot overflow.
	from := int(min(at.V, api.MaxWidth))
	if signed {
		from = int(max(extend(at.W, at.V), -api.MaxWidth))
	}
	return Put(All(w, 'x'), -from, b)
}

// Put returns b with the bits of part from bit at on; bits outside are ignored.
func Put(b api.Bits, at int, part api.Bits) api.Bits {
	if !valid(b) || !valid(part) {
		return api.Bits{}
	}
	place := up(mask(part.W), at) & mask(b.W)
	return api.Bits{
		W: b.W,
		V: b.V&^place | up(part.V, at)&place,
		X: b.X&^place | up(part.X, at)&place,
	}
}

// Resize cuts or extends a vector.
func Resize(b api.Bits, w int, signed bool) api.Bits {
	if !valid(b) || w < 1 || w > api.MaxWidth {
		return api.Bits{}
	}
	if !signed {
		return api.Bits{W: w, V: b.V & mask(w), X: b.X & mask(w)}
	}
	return api.Bits{W: w, V: uint64(extend(b.W, b.V)) & mask(w), X: uint64(extend(b.W, b.X)) & mask(w)}
}

// up moves the bits of a number up, or down if by is negative.
func up(v uint64, by int) uint64 {
	if by < 0 {
		return v >> -uint(by)
	}
	return v << by
}
