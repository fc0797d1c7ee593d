package netlist

import "maskwright/api"

// Loads returns for each net where it is used: by gates, by flip-flops, then by outputs.
func Loads(n api.Netlist) ([][]Load, api.Errno) {
	if e := Form(n); e != api.OK {
		return nil, e
	}
	loads := make([][]Load, Nets(n))
	use := func(net int, l Load) { loads[net] = append(loads[net], l) }
	for i, g := range n.Gates {
		for k, x := range g.Ins {
			use(x, Load{Pin, i, k})
		}
	}
	for i, f := range n.Flops {
		use(f.D, Load{Data, i, 0})
		use(f.En, Load{Enable, i, 0})
	}
	for i, x := range n.Outs {
		use(x, Load{Port, i, 0})
	}
	return loads, api.OK
}

// Levels returns for each net how many gates lie one after the other on the longest way to it.
func Levels(n api.Netlist) ([]int, api.Errno) {
	if e := Form(n); e != api.OK {
		return nil, e
	}
	levels := make([]int, First(n), Nets(n))
	for _, g := range n.Gates {
		levels = append(levels, 1+greatest(picked(levels, g.Ins)))
	}
	return levels, api.OK
}

// Depth returns the greatest level of the net of an output or of an input of a flip-flop.
func Depth(n api.Netlist) (int, api.Errno) {
	levels, e := Levels(n)
	if e != api.OK {
		return 0, e
	}
	return greatest(picked(levels, roots(n))), api.OK
}

// greatest returns the greatest one of some levels, or 0 if there are none.
func greatest(levels []int) int {
	top := 0
	for _, l := range levels {
		top = max(top, l)
	}
	return top
}

// Area returns the sum of the areas of all cells.
func Area(n api.Netlist, lib []api.Cell) (int, api.Errno) {
	if e := Check(n, lib); e != api.OK {
		return 0, e
	}
	area := 0
	for _, c := range used(n) {
		if c == -1 {
			return 0, api.ErrType
		}
		a := lib[c].Area
		if a < 0 || a > MaxArea {
			return 0, api.ErrRange
		}
		area += a
	}
	return area, api.OK
}

// used returns the cells of all gates and then of all flip-flops.
func used(n api.Netlist) []int {
	var cells []int
	for _, g := range n.Gates {
		cells = append(cells, g.Cell)
	}
	for _, f := range n.Flops {
		cells = append(cells, f.Cell)
	}
	return cells
}
