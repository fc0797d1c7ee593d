package netlist

import (
	"slices"

	"maskwright/api"
	"maskwright/graph"
)

// Mask returns the bits that a table of so many inputs has.
func Mask(ins int) uint64 {
	if ins < 0 || ins > api.MaxPins {
		return 0
	}
	return uint64(1)<<(1<<ins) - 1 // all bits for MaxPins inputs, since the one is shifted out
}

// Form validates a netlist without its cells.
func Form(n api.Netlist) api.Errno {
	if len(n.In) > api.MaxIns || len(n.Out) > api.MaxOuts || len(n.Flops) > api.MaxRegs || len(n.Gates) > api.MaxGates {
		return api.ErrLarge
	}
	if len(n.Outs) != len(n.Out) {
		return api.ErrForm
	}
	inner := slices.Clone(n.In)
	for _, f := range n.Flops {
		inner = append(inner, f.Name)
	}
	if e := graph.Names(inner); e != api.OK {
		return e
	}
	if e := graph.Names(n.Out); e != api.OK {
		return e
	}
	for i, g := range n.Gates {
		if e := formGate(g, First(n)+i); e != api.OK {
			return e
		}
	}
	return checkNets(roots(n), Nets(n))
}

// formGate validates a gate with this net.
func formGate(g api.Gate, net int) api.Errno {
	if len(g.Ins) > api.MaxPins {
		return api.ErrLarge
	}
	if g.Table&^Mask(len(g.Ins)) != 0 {
		return api.ErrForm
	}
	return checkNets(g.Ins, net)
}

// checkNets returns ErrRange if a number is not that of one of so many nets.
func checkNets(l []int, nets int) api.Errno {
	for _, x := range l {
		if x < 0 || x >= nets {
			return api.ErrRange
		}
	}
	return api.OK
}

// Check validates a netlist with the cells of a library.
func Check(n api.Netlist, lib []api.Cell) api.Errno {
	if e := Form(n); e != api.OK {
		return e
	}
	for _, g := range n.Gates {
		if e := checkGate(g, lib); e != api.OK {
			return e
		}
	}
	for _, f := range n.Flops {
		if e := checkFlop(f, lib); e != api.OK {
			return e
		}
	}
	return api.OK
}

// checkGate validates the cell of a gate.
func checkGate(g api.Gate, lib []api.Cell) api.Errno {
	if g.Cell == -1 {
		return api.OK
	}
	if e := checkCell(g.Cell, false, lib); e != api.OK {
		return e
	}
	if c := lib[g.Cell]; c.Ins != len(g.Ins) || c.Table != g.Table {
		return api.ErrForm
	}
	return api.OK
}

// checkFlop validates the cell of a flip-flop: only one with two inputs has an enable.
func checkFlop(f api.Flop, lib []api.Cell) api.Errno {
	if f.Cell == -1 {
		return api.OK
	}
	if e := checkCell(f.Cell, true, lib); e != api.OK {
		return e
	}
	if lib[f.Cell].Ins == 1 && f.En != one {
		return api.ErrForm
	}
	return api.OK
}

// checkCell says whether there is a cell with this number, which is a flip-flop or none.
func checkCell(i int, flop bool, lib []api.Cell) api.Errno {
	if i < 0 || i >= len(lib) {
		return api.ErrNone
	}
	if lib[i].Flop != flop {
		return api.ErrType
	}
	return api.OK
}
