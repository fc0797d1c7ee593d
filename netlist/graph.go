package netlist

import (
	"maskwright/api"
	"maskwright/graph"
)

// Graph returns a graph with the outputs and registers of a netlist.
func Graph(n api.Netlist) (api.Graph, api.Errno) {
	if e := Form(n); e != api.OK {
		return api.Graph{}, e
	}
	var regs []api.Reg
	for _, f := range n.Flops {
		regs = append(regs, api.Reg{Name: f.Name, Init: f.Init})
	}
	m := graph.New(n.In, regs)
	lits := literals(n, m)
	var next []api.Lit
	for i, f := range n.Flops {
		own := m.Reg(i)
		next = append(next, m.Mux(lits[f.En], lits[f.D], own))
	}
	return m.Graph(n.Out, picked(lits, n.Outs), next)
}

// literals returns the literals that a maker makes for the nets of a valid netlist.
func literals(n api.Netlist, m *graph.Maker) []api.Lit {
	lits := []api.Lit{graph.Off, graph.On}
	for i := range n.In {
		lits = append(lits, m.In(i))
	}
	for i := range n.Flops {
		lits = append(lits, m.Reg(i))
	}
	for _, g := range n.Gates {
		lits = append(lits, m.Table(g.Table, picked(lits, g.Ins)))
	}
	return lits
}

// Of returns the netlist of a graph: a gate of two inputs for each and, then inverters.
func Of(g api.Graph) (api.Netlist, api.Errno) {
	var d, en []api.Lit
	for _, r := range g.Regs {
		d = append(d, r.Next)
		en = append(en, graph.On)
	}
	return With(g, d, en)
}

// With returns the netlist of a graph whose flip-flops take given literals under given enables, in place of what the registers take.
func With(g api.Graph, d, en []api.Lit) (api.Netlist, api.Errno) {
	if e := graph.Check(g); e != api.OK {
		return api.Netlist{}, e
	}
	if len(d) != len(g.Regs) || len(en) != len(g.Regs) {
		return api.Netlist{}, api.ErrForm
	}
	if !exist(g, d) || !exist(g, en) {
		return api.Netlist{}, api.ErrRange
	}
	n := wired(g, d, en)
	if e := Form(n); e != api.OK {
		return api.Netlist{}, e
	}
	return n, api.OK
}

// exist reports whether all literals are those of nodes of a graph.
func exist(g api.Graph, l []api.Lit) bool {
	for _, x := range l {
		if x < 0 || graph.Node(x) >= graph.Nodes(g) {
			return false
		}
	}
	return true
}
