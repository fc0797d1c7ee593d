// Package bits implements chapter 1: vectors of bits with four states.
package bits

import (
	"strings"

	"maskwright/api"
)

// states has the state of a bit at 2 times its bit of X plus its bit of V.
const states = "01zx"

// Check validates a vector.
func Check(b api.Bits) api.Errno {
	if b.W < 1 || b.W > api.MaxWidth {
		return api.ErrRange
	}
	if (b.V|b.X)&^mask(b.W) != 0 {
		return api.ErrForm
	}
	return api.OK
}

// Of returns a vector with the lowest bits of a number.
func Of(w int, v uint64) api.Bits {
	if w < 1 || w > api.MaxWidth {
		return api.Bits{}
	}
	return api.Bits{W: w, V: v & mask(w)}
}

// All returns a vector whose bits all have one state.
func All(w int, state byte) api.Bits {
	k := strings.IndexByte(states, state)
	if k < 0 || w < 1 || w > api.MaxWidth {
		return api.Bits{}
	}
	b := api.Bits{W: w}
	if k&1 != 0 {
		b.V = mask(w)
	}
	if k&2 != 0 {
		b.X = mask(w)
	}
	return b
}

// Bit returns the state of a bit; 0 if there is none.
func Bit(b api.Bits, i int) byte {
	if !valid(b) || i < 0 || i >= b.W {
		return 0
	}
	return states[b.X>>i&1<<1|b.V>>i&1]
}

// Known reports whether no bit is x or z.
func Known(b api.Bits) bool {
	return valid(b) && b.X == 0
}

// Uint returns the number of a known vector.
func Uint(b api.Bits) (uint64, bool) {
	if !Known(b) {
		return 0, false
	}
	return b.V, true
}

// Int returns the signed number of a known vector.
func Int(b api.Bits) (int64, bool) {
	if !Known(b) {
		return 0, false
	}
	return extend(b.W, b.V), true
}

// True returns 1 if some bit is 1, 0 if all are 0, and -1 otherwise.
func True(b api.Bits) int {
	if !valid(b) || b.V|b.X == 0 {
		return 0
	}
	if b.V&^b.X != 0 {
		return 1
	}
	return -1
}

// mask returns the number with ones in the lowest w bits; w is from 0 to 64.
func mask(w int) uint64 {
	return uint64(1)<<w - 1
}

// extend returns the signed number of the lowest w bits of v; w is from 1 to 64.
func extend(w int, v uint64) int64 {
	return int64(v<<(64-w)) >> (64 - w)
}

func valid(b api.Bits) bool {
	return Check(b) == api.OK
}

// alike reports whether two vectors are valid and have the same width.
func alike(a, b api.Bits) bool {
	return valid(a) && valid(b) && a.W == b.W
}
