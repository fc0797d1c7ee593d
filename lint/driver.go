package lint

import (
	"slices"

	"maskwright/api"
	"maskwright/design"
)

// place is an element of a signal.
type place struct {
	sig, elem int
}

// placeOf returns the element of which a piece has bits.
func placeOf(p design.Piece) place { return place{p.Sig, p.Elem} }

// hasSignal reports whether pieces have bits of a signal.
func hasSignal(list []design.Piece, sig int) bool {
	return slices.ContainsFunc(list, func(p design.Piece) bool { return p.Sig == sig })
}

// maskOf returns all bits of an element of a signal.
func maskOf(s api.Signal) uint64 {
	return ^uint64(0) >> (api.MaxWidth - s.W)
}

// drivers looks at the drivers of the bits of all signals.
func (c *checker) drivers() {
	driven := c.driven()
	c.writers()
	isOpen := func(p design.Piece) bool { return p.Bits&^driven[placeOf(p)] != 0 }
	for i, s := range c.Signals {
		if s.Port == api.Out && isOpen(design.Piece{Sig: i, Bits: maskOf(s)}) {
			c.breaks(None, nowhere, i)
		}
	}
	look := func(at spot, list []design.Piece) {
		for _, p := range list {
			if isOpen(p) {
				c.breaks(None, at, p.Sig)
			}
		}
	}
	for i, a := range c.acts {
		look(inProc(i), a.reads)
	}
	look(nowhere, c.props)
}

// driven returns the bits of all elements that have a driver, and looks at wires with several ones.
func (c *checker) driven() map[place]uint64 {
	driven := map[place]uint64{}
	for i, s := range c.Signals {
		if s.Port == api.In {
			driven[place{i, 0}] = maskOf(s)
		}
	}
	for i, a := range c.acts {
		for _, p := range a.drives {
			if c.Procs[i].Kind == api.Cont && p.Bits&driven[placeOf(p)] != 0 {
				c.breaks(Several, inProc(i), p.Sig)
			}
			driven[placeOf(p)] |= p.Bits
		}
		if c.Procs[i].Kind != api.Seq {
			continue
		}
		// What a Seq process does not set keeps its value, so that it has one.
		for sig := range c.acts[i].assigned() {
			for elem := range c.Signals[sig].Elems {
				driven[place{sig, elem}] = maskOf(c.Signals[sig])
			}
		}
	}
	return driven
}

// assigned returns the signals to which a process has a Set or a Put.
func (a action) assigned() map[int]bool {
	all := map[int]bool{}
	for _, list := range []map[int]bool{a.sets, a.puts} {
		for sig := range list {
			all[sig] = true
		}
	}
	return all
}

// writers looks at variables that several processes assign.
func (c *checker) writers() {
	writers := map[int]int{}
	for i, a := range c.acts {
		if c.Procs[i].Kind == api.Cont {
			continue
		}
		for sig := range a.assigned() {
			writers[sig]++
			if writers[sig] == 2 {
				c.breaks(Several, inProc(i), sig)
			}
		}
	}
}
