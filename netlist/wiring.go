package netlist

import (
	"slices"

	"maskwright/api"
	"maskwright/graph"
)

// wiring is a netlist in the making, of a graph whose ands it has as gates.
type wiring struct {
	n        api.Netlist
	inverted []int // for each node the net of its inverter, or 0 if there is none so far
}

// wired returns the netlist of a valid graph whose flip-flops take these literals, which can have too many gates.
func wired(g api.Graph, d, en []api.Lit) api.Netlist {
	w := newWiring(g)
	for _, l := range g.Outs {
		net := w.net(l)
		w.n.Outs = append(w.n.Outs, net)
	}
	for i := range g.Regs {
		data := w.net(d[i])
		enable := w.net(en[i])
		w.n.Flops[i].D, w.n.Flops[i].En = data, enable
	}
	return w.n
}

// newWiring returns a netlist with the inputs and the registers of a graph, and a gate for each and.
func newWiring(g api.Graph) *wiring {
	w := &wiring{inverted: make([]int, graph.Nodes(g))}
	w.n.In, w.n.Out = slices.Clone(g.In), slices.Clone(g.Out)
	for _, r := range g.Regs {
		w.n.Flops = append(w.n.Flops, api.Flop{Name: r.Name, Cell: -1, Init: r.Init})
	}
	for _, x := range g.Ands {
		w.n.Gates = append(w.n.Gates, conjunction(x))
	}
	return w
}

// conjunction returns the gate of an and, which is 1 for one row of its table only.
func conjunction(x api.Node) api.Gate {
	row := 0
	if !graph.Inverted(x.A) {
		row |= 1
	}
	if !graph.Inverted(x.B) {
		row |= 2
	}
	return api.Gate{Cell: -1, Table: 1 << row, Ins: []int{plain(x.A), plain(x.B)}}
}

// plain returns the net of a literal's node. There are two nets for the one node of the constants.
func plain(l api.Lit) int {
	node := graph.Node(l)
	if node == 0 {
		return zero
	}
	return node - 1 + firstIn
}

// net returns the net of a literal, behind an inverter if it is inverted.
func (w *wiring) net(l api.Lit) int {
	if l == graph.On {
		return one
	}
	if !graph.Inverted(l) {
		return plain(l)
	}
	node := graph.Node(l)
	if w.inverted[node] == 0 {
		w.inverted[node] = Nets(w.n)
		w.n.Gates = append(w.n.Gates, api.Gate{Cell: -1, Table: 1, Ins: []int{plain(l)}})
	}
	return w.inverted[node]
}
