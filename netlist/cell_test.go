package netlist_test

import (
	"math"
	"math/rand"
	"testing"

	"maskwright/api"
	"maskwright/netlist"
)

// cells returns cells for base, in the order of its gates and flip-flops, and two more: one with the table of another one, but more inputs, and one with the inputs of another one, but another table.
func cells() []api.Cell {
	return []api.Cell{
		{Name: "and", Ins: 2, Table: 8, Area: 10},
		{Name: "not", Ins: 1, Table: 1, Area: 0},
		{Name: "mux", Ins: 3, Table: 0b11100100, Area: 64},
		{Name: "one", Table: 1, Area: 1},
		{Name: "flop", Flop: true, Ins: 1, Area: 20},
		{Name: "enabled", Flop: true, Ins: 2, Area: 31},
		{Name: "nor", Ins: 2, Table: 1, Area: 7},
		{Name: "buffer", Ins: 1, Table: 2, Area: 7},
	}
}

// celled returns base with these cells.
func celled() api.Netlist {
	n := base()
	for i := range n.Gates {
		n.Gates[i].Cell = i
	}
	n.Flops[0].Cell, n.Flops[1].Cell = 4, 5
	return n
}

// P15.3
func TestCheckOfCells(t *testing.T) {
	mixed := celled()
	mixed.Gates[1].Cell, mixed.Gates[3].Cell, mixed.Flops[0].Cell = -1, -1, -1
	enabled := celled()
	enabled.Flops[0].Cell = 5
	alike := celled()
	alike.Gates = append(alike.Gates, alike.Gates...)
	free := celled()
	free.Flops[1].Cell, free.Flops[1].En = -1, 0
	for i, n := range []api.Netlist{base(), celled(), mixed, enabled, alike, free} {
		if e := netlist.Check(n, cells()); e != api.OK {
			t.Errorf("%d: error %d", i, e)
		}
	}
	if e := netlist.Check(base(), nil); e != api.OK {
		t.Errorf("no cells: error %d", e)
	}
	if e := netlist.Check(celled(), nil); e != api.ErrNone {
		t.Errorf("no cells: error %d", e)
	}
}

// cellFaults returns faults of the cells of celled; each place is that of a gate or a flip-flop.
func cellFaults() []fault {
	var l []fault
	for i, numbers := range [][]struct {
		cell int
		e    api.Errno
	}{
		{{1, api.ErrForm}, {2, api.ErrForm}, {3, api.ErrForm}, {4, api.ErrType}, {5, api.ErrType}, {6, api.ErrForm}, {7, api.ErrForm}},
		{{0, api.ErrForm}, {2, api.ErrForm}, {3, api.ErrForm}, {4, api.ErrType}, {5, api.ErrType}, {6, api.ErrForm}, {7, api.ErrForm}},
		{{0, api.ErrForm}, {1, api.ErrForm}, {3, api.ErrForm}, {4, api.ErrType}, {5, api.ErrType}, {6, api.ErrForm}, {7, api.ErrForm}},
		{{0, api.ErrForm}, {1, api.ErrForm}, {2, api.ErrForm}, {4, api.ErrType}, {5, api.ErrType}, {6, api.ErrForm}, {7, api.ErrForm}},
		{{0, api.ErrType}, {1, api.ErrType}, {2, api.ErrType}, {3, api.ErrType}, {6, api.ErrType}, {7, api.ErrType}},
		{{0, api.ErrType}, {1, api.ErrType}, {2, api.ErrType}, {3, api.ErrType}, {4, api.ErrForm}, {6, api.ErrType}, {7, api.ErrType}},
	} {
		give := func(cell int, e api.Errno) {
			l = append(l, fault{i, func(n *api.Netlist) {
				if i < 4 {
					n.Gates[i].Cell = cell
					return
				}
				n.Flops[i-4].Cell = cell
			}, e})
		}
		for _, x := range numbers {
			give(x.cell, x.e)
		}
		for _, cell := range []int{math.MinInt, -3, -2, 8, 9, 64, math.MaxInt} {
			give(cell, api.ErrNone)
		}
		if i == 4 {
			for _, net := range []int{0, 2, 4, 9} {
				l = append(l, fault{i, func(n *api.Netlist) { n.Flops[0].En = net }, api.ErrForm})
			}
		}
	}
	return l
}

// P15.3
func TestCheckFaults(t *testing.T) {
	all := cellFaults()
	for i, f := range all {
		n := celled()
		f.do(&n)
		if e := netlist.Check(n, cells()); e != f.e {
			t.Errorf("fault %d: error %d, not %d", i, e, f.e)
		}
		area, e := netlist.Area(n, cells())
		if e != f.e || area != 0 {
			t.Errorf("fault %d: area %d, error %d, not %d", i, area, e, f.e)
		}
		for k, later := range all[i+1:] {
			if later.place == f.place {
				continue
			}
			n := celled()
			later.do(&n)
			f.do(&n)
			if e := netlist.Check(n, cells()); e != f.e {
				t.Errorf("fault %d and %d: error %d, not %d", i, i+1+k, e, f.e)
			}
		}
	}
}

// P15.3: the form comes first.
func TestCheckForm(t *testing.T) {
	for i, f := range faults() {
		for _, g := range []fault{{0, func(n *api.Netlist) {}, api.OK}, cellFaults()[0], cellFaults()[len(cellFaults())-1]} {
			n := celled()
			f.do(&n)
			g.do(&n)
			e := netlist.Check(n, cells())
			area, a := netlist.Area(n, cells())
			if e != f.e || a != f.e || area != 0 {
				t.Errorf("fault %d: errors %d and %d, not %d", i, e, a, f.e)
			}
		}
	}
}

// P15.8
func TestAreaFaults(t *testing.T) {
	if a, e := netlist.Area(celled(), cells()); a != 126 || e != api.OK {
		t.Errorf("area %d, error %d", a, e)
	}
	if a, e := netlist.Area(api.Netlist{In: []string{"a"}}, nil); a != 0 || e != api.OK {
		t.Errorf("area %d, error %d", a, e)
	}
	if a, e := netlist.Area(base(), cells()); a != 0 || e != api.ErrType {
		t.Errorf("area %d, error %d", a, e)
	}
	// each gate and flip-flop has a cell of its own
	type wrong struct {
		do func(n *api.Netlist, l []api.Cell)
		e  api.Errno
	}
	faultsOf := func(i int) []wrong {
		l := []wrong{{func(n *api.Netlist, l []api.Cell) {
			if i < 4 {
				n.Gates[i].Cell = -1
				return
			}
			n.Flops[i-4].Cell = -1
		}, api.ErrType}}
		for _, area := range []int{math.MinInt, -1, 65, math.MaxInt} {
			l = append(l, wrong{func(n *api.Netlist, l []api.Cell) { l[i].Area = area }, api.ErrRange})
		}
		return l
	}
	for i := range 6 {
		for _, f := range faultsOf(i) {
			n, l := celled(), cells()
			f.do(&n, l)
			if a, e := netlist.Area(n, l); a != 0 || e != f.e {
				t.Errorf("%d: area %d, error %d, not %d", i, a, e, f.e)
			}
			if e := netlist.Check(n, l); e != api.OK {
				t.Errorf("%d: error %d", i, e)
			}
			for k := i + 1; k < 6; k++ {
				for _, g := range faultsOf(k) {
					n, l := celled(), cells()
					f.do(&n, l)
					g.do(&n, l)
					if a, e := netlist.Area(n, l); a != 0 || e != f.e {
						t.Errorf("%d and %d: area %d, error %d, not %d", i, k, a, e, f.e)
					}
				}
			}
			n.Flops[1].Cell = 4
			if a, e := netlist.Area(n, l); a != 0 || e != api.ErrForm {
				t.Errorf("%d: area %d, error %d: the cells are checked first", i, a, e)
			}
		}
	}
}

// P15.8
func TestAreaOfRandomNetlists(t *testing.T) {
	r := rand.New(rand.NewSource(1583))
	for range 200 {
		n := grown(r)
		var l []api.Cell
		want := 0
		for i, g := range n.Gates {
			n.Gates[i].Cell = len(l)
			l = append(l, api.Cell{Ins: len(g.Ins), Table: g.Table, Area: r.Intn(65)})
			want += l[len(l)-1].Area
		}
		at := len(l)
		l = append(l, api.Cell{Flop: true, Ins: 2, Area: r.Intn(65)})
		for i := range n.Flops {
			n.Flops[i].Cell = at
			want += l[at].Area
		}
		if a, e := netlist.Area(n, l); a != want || e != api.OK {
			t.Errorf("%v: area %d, not %d, error %d", n, a, want, e)
		}
	}
}
