package netlist

import "maskwright/api"

// Clean returns a netlist without the gates from which no output and no flip-flop is computed, and the new number of each net, or -1.
func Clean(n api.Netlist) (api.Netlist, []int, api.Errno) {
	if e := Form(n); e != api.OK {
		return api.Netlist{}, nil, e
	}
	marks := needed(n)
	c := Copy(n)
	c.Gates = nil
	var numbers []int
	for i := range First(n) {
		numbers = append(numbers, i)
	}
	for i, g := range n.Gates {
		if !marks[First(n)+i] {
			numbers = append(numbers, -1)
			continue
		}
		numbers = append(numbers, First(n)+len(c.Gates))
		c.Gates = append(c.Gates, api.Gate{Cell: g.Cell, Table: g.Table, Ins: picked(numbers, g.Ins)})
	}
	for i, f := range n.Flops {
		c.Flops[i].D, c.Flops[i].En = numbers[f.D], numbers[f.En]
	}
	c.Outs = picked(numbers, n.Outs)
	return c, numbers, api.OK
}

// needed says for each net of a valid netlist whether an output or a flip-flop is computed from it.
func needed(n api.Netlist) []bool {
	marks := make([]bool, Nets(n))
	for _, x := range roots(n) {
		marks[x] = true
	}
	for i := len(n.Gates) - 1; i >= 0; i-- {
		if !marks[First(n)+i] {
			continue
		}
		for _, x := range n.Gates[i].Ins {
			marks[x] = true
		}
	}
	return marks
}
