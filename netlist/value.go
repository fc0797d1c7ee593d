package netlist

import (
	"maskwright/api"
	"maskwright/graph"
)

// Look returns the values of a gate's output for those of its inputs, in 64 lanes; 0 for more than MaxPins inputs.
func Look(table uint64, ins []uint64) uint64 {
	if len(ins) > api.MaxPins {
		return 0
	}
	var v [1 << api.MaxPins]uint64
	rows := 1 << len(ins)
	for k := range rows {
		v[k] = -(table >> k & 1)
	}
	for _, w := range ins { // each input chooses between neighbours, which halves the rows
		rows /= 2
		for k := range rows {
			v[k] = w&v[2*k+1] | ^w&v[2*k]
		}
	}
	return v[0]
}

// Values returns the values of all nets, in 64 lanes.
func Values(n api.Netlist, in, state []uint64) ([]uint64, api.Errno) {
	if e := Form(n); e != api.OK {
		return nil, e
	}
	if len(in) != len(n.In) || len(state) != len(n.Flops) {
		return nil, api.ErrWidth
	}
	return values(n, in, state), api.OK
}

// Words returns the outputs and the next state, in 64 lanes.
func Words(n api.Netlist, in, state []uint64) (out, next []uint64, e api.Errno) {
	v, e := Values(n, in, state)
	if e != api.OK {
		return nil, nil, e
	}
	out, next = sampled(n, v, state)
	return out, next, api.OK
}

// Eval returns the outputs and the next state for inputs and a state.
func Eval(n api.Netlist, in, state []bool) (out, next []bool, e api.Errno) {
	o, s, e := Words(n, graph.Lanes(in), graph.Lanes(state))
	if e != api.OK {
		return nil, nil, e
	}
	return graph.Lane(o), graph.Lane(s), api.OK
}

// Init returns the initial state.
func Init(n api.Netlist) []bool {
	state := make([]bool, len(n.Flops))
	for i, f := range n.Flops {
		state[i] = f.Init
	}
	return state
}

// Run returns the outputs of each cycle, from the initial state on.
func Run(n api.Netlist, trace [][]bool) ([][]bool, api.Errno) {
	if e := Form(n); e != api.OK {
		return nil, e
	}
	if len(trace) > api.MaxCycles {
		return nil, api.ErrLarge
	}
	for _, in := range trace {
		if len(in) != len(n.In) {
			return nil, api.ErrWidth
		}
	}
	outs := make([][]bool, len(trace))
	state := graph.Lanes(Init(n))
	for i, in := range trace {
		out, next := sampled(n, values(n, graph.Lanes(in), state), state)
		outs[i], state = graph.Lane(out), next
	}
	return outs, api.OK
}

// values returns the values of all nets of a valid netlist.
func values(n api.Netlist, in, state []uint64) []uint64 {
	v := make([]uint64, firstIn, Nets(n))
	v[one] = ^uint64(0)
	v = append(append(v, in...), state...)
	for _, g := range n.Gates {
		v = append(v, Look(g.Table, picked(v, g.Ins)))
	}
	return v
}

// picked returns what a list has for some nets.
func picked[T any](list []T, nets []int) []T {
	l := make([]T, len(nets))
	for i, x := range nets {
		l[i] = list[x]
	}
	return l
}

// sampled returns the values of the outputs, and what the flip-flops have in the next cycle, for the values of all nets.
func sampled(n api.Netlist, v, state []uint64) (out, next []uint64) {
	for i, f := range n.Flops {
		next = append(next, v[f.En]&v[f.D]|^v[f.En]&state[i])
	}
	return picked(v, n.Outs), next
}
