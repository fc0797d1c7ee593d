package eval

import (
	"slices"

	"maskwright/api"
	"maskwright/bits"
)

// State has the values of all elements of all signals of a design, and the time.
type State struct {
	Sigs [][]api.Bits
	Now  uint64
}

// Put is an assignment that is made later: bits of an element from At on, after so many ticks.
type Put struct {
	Sig, Elem, At int
	B             api.Bits
	After         uint64
}

// Clone returns an equal state in new memory.
func Clone(s State) State {
	s.Sigs = slices.Clone(s.Sigs)
	for i, list := range s.Sigs {
		s.Sigs[i] = slices.Clone(list)
	}
	return s
}

// Apply makes an assignment in a state.
func Apply(s State, p Put) State {
	s = Clone(s)
	if p.Sig < 0 || p.Sig >= len(s.Sigs) || p.Elem < 0 || p.Elem >= len(s.Sigs[p.Sig]) {
		return s
	}
	list := s.Sigs[p.Sig]
	// bits.Put returns no vector if the element or B is not valid.
	if b := bits.Put(list[p.Elem], p.At, p.B); bits.Check(b) == api.OK {
		list[p.Elem] = b
	}
	return s
}

// unknown returns the elements of a signal about which nothing is known.
func unknown(x api.Signal) []api.Bits {
	return slices.Repeat([]api.Bits{bits.All(x.W, 'x')}, x.Elems)
}
