package netlist_test

import (
	"math"
	"math/rand"
	"slices"
	"testing"

	"maskwright/api"
	"maskwright/graph"
	"maskwright/netlist"
)

// odd returns a netlist of which anything can be wrong.
func odd(r *rand.Rand) api.Netlist {
	number := func() int {
		return []int{math.MinInt, -2, -1, 0, 1, 2, 5, 9, 1700, math.MaxInt}[r.Intn(10)]
	}
	name := func() string { return []string{"", "a", "b", "é", "c d", "e"}[r.Intn(6)] }
	var n api.Netlist
	for range r.Intn(3) {
		n.In = append(n.In, name())
		n.Flops = append(n.Flops, api.Flop{Name: name(), Cell: number(), D: number(), En: number()})
	}
	for range r.Intn(3) {
		n.Out = append(n.Out, name())
		g := api.Gate{Cell: number(), Table: uint64(number())}
		for range r.Intn(9) {
			g.Ins = append(g.Ins, number())
		}
		n.Gates = append(n.Gates, g)
	}
	for range r.Intn(3) {
		n.Outs = append(n.Outs, number())
	}
	return n
}

// Z1 and Z3
func TestOdd(t *testing.T) {
	r := rand.New(rand.NewSource(1))
	for range 3000 {
		n := odd(r)
		want := netlist.Form(n)
		all(n, func(what string, e api.Errno, results ...any) {
			if e != want || e != api.OK && !blank(results...) {
				t.Errorf("%s of %v: error %d, not %d", what, n, e, want)
			}
		})
		for _, lib := range [][]api.Cell{nil, cells(), {{Ins: -1, Area: math.MaxInt}, {Flop: true, Ins: math.MinInt}}} {
			e := netlist.Check(n, lib)
			a, f := netlist.Area(n, lib)
			if want != api.OK && e != want || e != api.OK && f != e || f != api.OK && a != 0 {
				t.Errorf("%v: errors %d, %d and %d, area %d", n, want, e, f, a)
			}
		}
		if netlist.First(n) != 2+len(n.In)+len(n.Flops) || netlist.Nets(n) != netlist.First(n)+len(n.Gates) || len(netlist.Init(n)) != len(n.Flops) || !netlist.Same(n, netlist.Copy(n)) {
			t.Errorf("%v: numbers", n)
		}
	}
}

// Z1 and Z3, for graphs
func TestOddGraphs(t *testing.T) {
	r := rand.New(rand.NewSource(4))
	for range 3000 {
		g, d, en := grownGraph(r)
		lits := slices.Concat(g.Outs, d, en, []api.Lit{math.MinInt, math.MaxInt, -1})
		lit := func() api.Lit { return lits[r.Intn(len(lits))] }
		for i := range g.Outs {
			g.Outs[i] = lit()
		}
		for i := range g.Ands {
			if r.Intn(20) == 0 {
				g.Ands[i].A = lit()
			}
		}
		if r.Intn(5) == 0 {
			d = append(d, lit())
		}
		want := graph.Check(g)
		n, e := netlist.With(g, d, en)
		if want != api.OK && e != want || want == api.OK && len(d) != len(g.Regs) && e != api.ErrForm || e != api.OK && !blank(n) || e == api.OK && netlist.Form(n) != api.OK {
			t.Errorf("%v, %v, %v: %v, error %d", g, d, en, n, e)
		}
		if n, e := netlist.Of(g); e != want || e != api.OK && !blank(n) {
			t.Errorf("%v: %v, error %d, not %d", g, n, e, want)
		}
	}
}
