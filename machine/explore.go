package machine

import (
	"maps"
	"slices"

	"maskwright/bits"
)

// step returns the state to which a state leads for values of the free bits.
type step func(state, free uint64) uint64

// follow returns the step of a machine of which the register, the process and the free bits are known.
func (f finder) follow(m Machine) step {
	now := f.runs.Start()
	for _, list := range now.Sigs {
		for i, b := range list {
			// Bits that are not free can have any values, but they must have some.
			list[i] = bits.Of(b.W, 0)
		}
	}
	register := &now.Sigs[m.Sig][0]
	return func(state, free uint64) uint64 {
		register.V = state
		for i, b := range m.Free {
			x := &now.Sigs[b.Sig][b.Elem]
			x.V = x.V&^(1<<b.At) | free>>i&1<<b.At
		}
		// A body of an accepted design neither waits nor loops, so that there is no error.
		_, puts, _ := f.runs.Body(now, m.Proc)
		for _, p := range puts {
			if p.Sig == m.Sig {
				state = p.B.V
			}
		}
		return state
	}
}

// explore finds the states and the edges of a machine from its first state on.
func (m *Machine) explore(first uint64, next step) {
	m.States = []uint64{first}
	for i := 0; i < len(m.States); i++ {
		for _, x := range m.edges(m.States[i], next) {
			m.Edges = append(m.Edges, x)
			if !slices.Contains(m.States, x.To) {
				m.States = append(m.States, x.To)
			}
		}
	}
}

// edges returns the edges from a state, in the order of the states to which they lead.
func (m *Machine) edges(from uint64, next step) []Edge {
	least := map[uint64]uint64{}
	for free := range uint64(1) << len(m.Free) {
		to := next(from, free)
		if _, found := least[to]; !found {
			least[to] = free
		}
	}
	var list []Edge
	for _, to := range slices.Sorted(maps.Keys(least)) {
		list = append(list, Edge{from, to, least[to]})
	}
	return list
}
