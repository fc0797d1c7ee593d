package bits

import (
	"maskwright/api"
)

// Eq compares two vectors.
func Eq(a, b api.Bits) api.Bits {
	if !alike(a, b) {
		return api.Bits{}
	}
	unknown := a.X | b.X
	if differ(a, b)&^unknown != 0 {
		return truth(false)
	}
	if unknown != 0 {
		return All(1, 'x')
	}
	return truth(true)
}

// Ne compares two vectors.
func Ne(a, b api.Bits) api.Bits {
	return LNot(Eq(a, b))
}

// CaseEq compares the states of two vectors.
func CaseEq(a, b api.Bits) api.Bits {
	if !alike(a, b) {
		return api.Bits{}
	}
	return truth(a == b)
}

// CaseNe compares the states of two vectors.
func CaseNe(a, b api.Bits) api.Bits {
	return LNot(CaseEq(a, b))
}

// Lt compares two numbers.
func Lt(a, b api.Bits, signed bool) api.Bits {
	if !alike(a, b) {
		return api.Bits{}
	}
	if !Known(a) || !Known(b) {
		return All(1, 'x')
	}
	if signed {
		return truth(extend(a.W, a.V) < extend(b.W, b.V))
	}
	return truth(a.V < b.V)
}

// Le compares two numbers.
func Le(a, b api.Bits, signed bool) api.Bits {
	return LNot(Lt(b, a, signed))
}

// Fits reports whether two vectors are equal for a kind of case.
func Fits(a, b api.Bits, kind int) bool {
	if !alike(a, b) {
		return false
	}
	d := differ(a, b)
	switch kind {
	case api.Exact:
		return d == 0
	case api.WildZ:
		return d&^(floating(a)|floating(b)) == 0
	case api.WildX:
		return d&^(a.X|b.X) == 0
	}
	return false
}

// differ returns the bits whose states are not the same in both vectors.
func differ(a, b api.Bits) uint64 {
	return (a.V ^ b.V) | (a.X ^ b.X)
}
