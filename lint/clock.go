package lint

import (
	"slices"

	"maskwright/api"
)

// clockOf returns the clock of a valid design; -1 if nothing has one.
func clockOf(d api.Design) int {
	for _, p := range d.Procs {
		if p.Kind == api.Seq {
			return p.Edges[0].Sig
		}
	}
	if len(d.Props) > 0 {
		return d.Props[0].Clock
	}
	return -1
}

// isLine reports whether a signal is an input of one bit.
func (c *checker) isLine(sig int) bool {
	s := c.Signals[sig]
	return s.Port == api.In && s.W == 1
}

// isRise reports whether an edge is a rise of the clock.
func (c *checker) isRise(g api.Edge) bool {
	return g == api.Edge{Kind: api.Rise, Sig: c.clock}
}

// clocks looks at the clock and at what processes and properties have as theirs.
func (c *checker) clocks() {
	if c.clock >= 0 && !c.isLine(c.clock) {
		c.breaks(Clock, nowhere, c.clock)
	}
	for i, p := range c.Procs {
		if p.Kind == api.Seq && (!c.isRise(p.Edges[0]) || len(p.Edges) > 2) {
			c.breaks(Clock, inProc(i), p.Edges[0].Sig)
		}
	}
	for _, p := range c.Props {
		if p.Clock != c.clock {
			c.breaks(Clock, nowhere, p.Clock)
		}
	}
}

// resets looks at the processes that have a rise of the clock and a second edge, and returns the reset; -1 if there is none.
func (c *checker) resets() int {
	reset := api.Edge{Sig: -1}
	for i, p := range c.Procs {
		if p.Kind != api.Seq || len(p.Edges) != 2 || !c.isRise(p.Edges[0]) {
			continue
		}
		if reset.Sig < 0 {
			reset = p.Edges[1]
		}
		c.reset(inProc(i), p, reset)
	}
	return reset.Sig
}

// reset looks at a process with a second edge, which must be the reset.
func (c *checker) reset(at spot, p api.Proc, reset api.Edge) {
	g, s := p.Edges[1], p.Body
	if g != reset || g.Sig == c.clock || !c.isLine(g.Sig) || g.Kind == api.Any || s.Op != api.If || len(s.Kids) != 2 {
		c.breaks(Reset, at, g.Sig)
		return
	}
	active := s.Args[0]
	if g.Kind == api.Fall {
		if active.Op != api.LNot {
			c.breaks(Reset, at, g.Sig)
			return
		}
		active = active.Kids[0]
	}
	constant := isConstants(s.Kids[0])
	if !constant || active.Op != api.Ref || active.Sig != g.Sig {
		c.breaks(Reset, at, g.Sig)
	}
	begun := named(s.Kids[0], api.Put)
	for sig := range named(s.Kids[1], api.Put) {
		if !constant || !begun[sig] {
			c.breaks(Reset, at, sig)
		}
	}
}

// isConstants reports whether a statement does nothing but give constants to signals.
func isConstants(s api.Stmt) bool {
	switch s.Op {
	case api.Nop:
		return true
	case api.Put:
		return len(s.Args) == 1 && s.Args[0].Op == api.Const && s.To.Op == api.Ref
	case api.Block:
		return !slices.ContainsFunc(s.Kids, func(kid api.Stmt) bool { return !isConstants(kid) })
	}
	return false
}

// assignments looks at the kinds of assignments to variables.
func (c *checker) assignments() {
	for i, a := range c.acts {
		switch c.Procs[i].Kind {
		case api.Comb:
			for sig := range a.puts {
				c.breaks(Assigned, inProc(i), sig)
			}
		case api.Seq:
			for sig := range a.sets {
				if a.puts[sig] || c.Signals[sig].Port == api.Out || c.isReadBeside(i, sig) {
					c.breaks(Assigned, inProc(i), sig)
				}
			}
		}
	}
}

// isReadBeside reports whether another process than one, or a property, reads a signal.
func (c *checker) isReadBeside(proc, sig int) bool {
	for i, a := range c.acts {
		if i != proc && hasSignal(a.reads, sig) {
			return true
		}
	}
	return hasSignal(c.props, sig)
}
