package graph

import "maskwright/api"

// Values returns the values of all nodes, in 64 lanes.
func Values(g api.Graph, in, state []uint64) ([]uint64, api.Errno) {
	if e := Check(g); e != api.OK {
		return nil, e
	}
	if len(in) != len(g.In) || len(state) != len(g.Regs) {
		return nil, api.ErrWidth
	}
	return values(g, in, state), api.OK
}

// Words returns the outputs and the next state, in 64 lanes.
func Words(g api.Graph, in, state []uint64) (out, next []uint64, e api.Errno) {
	v, e := Values(g, in, state)
	if e != api.OK {
		return nil, nil, e
	}
	out, next = sampled(g, v)
	return out, next, api.OK
}

// Eval returns the outputs and the next state for inputs and a state.
func Eval(g api.Graph, in, state []bool) (out, next []bool, e api.Errno) {
	o, n, e := Words(g, Lanes(in), Lanes(state))
	if e != api.OK {
		return nil, nil, e
	}
	return Lane(o), Lane(n), api.OK
}

// Lanes returns words whose lane 0 has the given bits.
func Lanes(l []bool) []uint64 {
	words := make([]uint64, len(l))
	for i, b := range l {
		if b {
			words[i] = 1
		}
	}
	return words
}

// Lane returns the bits of lane 0 of words.
func Lane(l []uint64) []bool {
	lane := make([]bool, len(l))
	for i, w := range l {
		lane[i] = w&1 == 1
	}
	return lane
}

// Init returns the initial state.
func Init(g api.Graph) []bool {
	state := make([]bool, len(g.Regs))
	for i, r := range g.Regs {
		state[i] = r.Init
	}
	return state
}

// Run returns the outputs of each cycle, from the initial state on.
func Run(g api.Graph, trace [][]bool) ([][]bool, api.Errno) {
	if e := Check(g); e != api.OK {
		return nil, e
	}
	if len(trace) > api.MaxCycles {
		return nil, api.ErrLarge
	}
	for _, in := range trace {
		if len(in) != len(g.In) {
			return nil, api.ErrWidth
		}
	}
	outs := make([][]bool, len(trace))
	state := Lanes(Init(g))
	for i, in := range trace {
		out, next := sampled(g, values(g, Lanes(in), state))
		outs[i], state = Lane(out), next
	}
	return outs, api.OK
}

// values returns the values of all nodes of a valid graph.
func values(g api.Graph, in, state []uint64) []uint64 {
	v := make([]uint64, 1, Nodes(g))
	v = append(append(v, in...), state...)
	for _, x := range g.Ands {
		v = append(v, value(v, x.A)&value(v, x.B))
	}
	return v
}

// value returns the value of a literal for those of the nodes.
func value(v []uint64, l api.Lit) uint64 {
	if Inverted(l) {
		return ^v[Node(l)]
	}
	return v[Node(l)]
}

// sampled returns the values of the outputs, and what the registers take, for the values of all nodes.
func sampled(g api.Graph, v []uint64) (out, next []uint64) {
	for _, l := range g.Outs {
		out = append(out, value(v, l))
	}
	for _, r := range g.Regs {
		next = append(next, value(v, r.Next))
	}
	return out, next
}
