package graph

import (
	"slices"

	"maskwright/api"
)

// Maker makes a graph node by node, so that no and is trivial or there twice.
type Maker struct {
	in   []string
	regs []api.Reg
	made *pairs
	err  api.Errno // of the first call that could not be done
}

// New returns a maker with inputs, and registers with names and initial values.
func New(in []string, regs []api.Reg) *Maker {
	return &Maker{in: slices.Clone(in), regs: slices.Clone(regs), made: newPairs(1 + len(in) + len(regs))}
}

// Nodes returns the number of nodes that there are so far.
func (m *Maker) Nodes() int { return m.made.nodes() }

// In returns the literal of an input, or Off if there is none.
func (m *Maker) In(i int) api.Lit {
	if i < 0 || i >= len(m.in) {
		return m.refuse(api.ErrRange)
	}
	return literal(1 + i)
}

// Reg returns the literal of a register, or Off if there is none.
func (m *Maker) Reg(i int) api.Lit {
	if i < 0 || i >= len(m.regs) {
		return m.refuse(api.ErrRange)
	}
	return literal(1 + len(m.in) + i)
}

// And returns the literal of the conjunction of two literals.
func (m *Maker) And(a, b api.Lit) api.Lit {
	return m.attempt([]api.Lit{a, b}, func() api.Lit { return m.made.and(a, b) })
}

// Or returns the literal of the disjunction of two literals.
func (m *Maker) Or(a, b api.Lit) api.Lit {
	return m.attempt([]api.Lit{a, b}, func() api.Lit { return m.made.or(a, b) })
}

// Xor returns the literal that is 1 if two literals differ.
func (m *Maker) Xor(a, b api.Lit) api.Lit {
	return m.attempt([]api.Lit{a, b}, func() api.Lit { return m.made.mux(a, Not(b), b) })
}

// Mux returns the literal that is a if s is 1, and b otherwise.
func (m *Maker) Mux(s, a, b api.Lit) api.Lit {
	return m.attempt([]api.Lit{s, a, b}, func() api.Lit { return m.made.mux(s, a, b) })
}

// Table returns the literal that has bit k of a truth table, where bit i of k is literal i: by cofactors of the last literal.
func (m *Maker) Table(t uint64, l []api.Lit) api.Lit {
	if len(l) > api.MaxPins {
		return m.refuse(api.ErrLarge)
	}
	return m.attempt(needed(t, l), func() api.Lit { return m.made.table(t, l) })
}

// Graph returns the graph with outputs and with what the registers take.
func (m *Maker) Graph(out []string, outs, next []api.Lit) (api.Graph, api.Errno) {
	if m.err != api.OK {
		return api.Graph{}, m.err
	}
	if len(next) != len(m.regs) {
		return api.Graph{}, api.ErrForm
	}
	g := Copy(api.Graph{In: m.in, Out: out, Regs: m.regs, Ands: m.made.ands, Outs: outs})
	for i, l := range next {
		g.Regs[i].Next = l
	}
	return checked(g)
}

// attempt returns what a function makes of literals, if they exist and there is room for its ands, which are taken back otherwise.
func (m *Maker) attempt(l []api.Lit, f func() api.Lit) api.Lit {
	for _, x := range l {
		if !has(m.Nodes(), x) {
			return m.refuse(api.ErrRange)
		}
	}
	before := len(m.made.ands)
	result := f()
	if len(m.made.ands) > api.MaxAnds {
		m.made.back(before)
		return m.refuse(api.ErrLarge)
	}
	return result
}

// refuse remembers the error of a call that cannot be done, if it is the first one.
func (m *Maker) refuse(e api.Errno) api.Lit {
	if m.err == api.OK {
		m.err = e
	}
	return Off
}

// needed returns the literals on which a function depends.
func needed(t uint64, l []api.Lit) []api.Lit {
	var list []api.Lit
	for i, x := range l {
		if depends(t, i, len(l)) {
			list = append(list, x)
		}
	}
	return list
}

// depends reports whether a function of n literals depends on literal i.
func depends(t uint64, i, n int) bool {
	for k := range 1 << n {
		if t>>k&1 != t>>(k^1<<i)&1 {
			return true
		}
	}
	return false
}
