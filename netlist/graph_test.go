package netlist_test

import (
	"math/rand"
	"slices"
	"testing"

	"maskwright/api"
	"maskwright/graph"
	"maskwright/netlist"
)

// sameAsGraph checks that a graph has the names and initial values of a netlist, and that both do the same.
func sameAsGraph(t *testing.T, r *rand.Rand, n api.Netlist, g api.Graph) {
	t.Helper()
	if graph.Check(g) != api.OK || !slices.Equal(g.In, n.In) || !slices.Equal(g.Out, n.Out) || len(g.Regs) != len(n.Flops) {
		t.Fatalf("%v: %v", n, g)
	}
	for i, f := range n.Flops {
		if g.Regs[i].Name != f.Name || g.Regs[i].Init != f.Init {
			t.Errorf("%v: %v", n, g)
		}
	}
	in, state := words(r, len(n.In)), words(r, len(n.Flops))
	out, next, _ := graph.Words(g, in, state)
	for k := range 64 {
		x := lane{n, laneOf(in, k), laneOf(state, k), map[int]bool{}}
		if !slices.Equal(laneOf(out, k), x.outs()) || !slices.Equal(laneOf(next, k), x.next()) {
			t.Fatalf("%v: another function in lane %d: %v", n, k, g)
		}
	}
}

// room returns the number of ands that are always enough for a netlist.
func room(n api.Netlist) int {
	sum := 3 * len(n.Flops)
	for _, g := range n.Gates {
		sum += 3 * (1<<len(g.Ins) - 1)
	}
	return sum
}

// P15.10
func TestGraphOfRandomNetlists(t *testing.T) {
	r := rand.New(rand.NewSource(1510))
	for range 300 {
		n := grown(r)
		g, e := netlist.Graph(n)
		if e != api.OK || len(g.Ands) > room(n) {
			t.Fatalf("%v: %d ands, error %d", n, len(g.Ands), e)
		}
		sameAsGraph(t, r, n, g)
	}
	for _, n := range []api.Netlist{{}, base(), {Flops: []api.Flop{{Name: "r", D: 2, En: 0}}}, {Out: []string{"o", "p"}, Outs: []int{0, 1}}} {
		g, e := netlist.Graph(n)
		if e != api.OK {
			t.Fatalf("%v: error %d", n, e)
		}
		sameAsGraph(t, r, n, g)
	}
}

// P15.10
func TestGraphOfEachTable(t *testing.T) {
	r := rand.New(rand.NewSource(15102))
	for i := range 4 {
		n := api.Netlist{In: names("i", i), Out: []string{"o"}, Outs: []int{2 + i}, Gates: []api.Gate{{}}}
		for k := range i {
			n.Gates[0].Ins = append(n.Gates[0].Ins, 2+k)
		}
		for table := range masks[i] + 1 {
			n.Gates[0].Table = table
			g, e := netlist.Graph(n)
			if e != api.OK || len(g.Ands) > room(n) {
				t.Fatalf("%v: %d ands, error %d", n, len(g.Ands), e)
			}
			sameAsGraph(t, r, n, g)
		}
	}
}

// large returns a netlist with so many gates of different functions, all of which are needed, with so many inputs each.
func large(r *rand.Rand, gates ...int) api.Netlist {
	n := api.Netlist{In: names("i", 100)}
	for _, ins := range gates {
		g := api.Gate{Table: r.Uint64() & masks[ins]}
		for _, k := range r.Perm(100)[:ins] {
			g.Ins = append(g.Ins, 2+k)
		}
		n.Gates = append(n.Gates, g)
	}
	return n
}

// P15.10
func TestGraphLimit(t *testing.T) {
	r := rand.New(rand.NewSource(15103))
	// 21 gates with 189 ands, one with 21 and one with 9 give 3999
	gates := append(slices.Repeat([]int{6}, 21), 3, 2)
	flat := slices.Repeat([]int{1, 0}, 600)
	for _, l := range [][]int{gates, flat, slices.Repeat([]int{2}, 444), append(slices.Repeat([]int{4}, 88), 3, 2)} {
		n := large(r, l...)
		if room(n) > api.MaxAnds {
			t.Fatalf("%d ands", room(n))
		}
		for i := range min(128, len(n.Gates)) {
			n.Out, n.Outs = append(n.Out, n.In[i%100]+names("o", i+1)[i]), append(n.Outs, 102+i)
		}
		g, e := netlist.Graph(n)
		if e != api.OK {
			t.Fatalf("%d gates: error %d", len(l), e)
		}
		sameAsGraph(t, r, n, g)
	}
	n := large(r, slices.Repeat([]int{6}, 1200)...)
	for i := range n.Gates { // each one is needed by an output, or by a gate that is
		if i > 0 {
			n.Gates[i].Ins[0] = 101 + i
		}
	}
	n.Out, n.Outs = []string{"o"}, []int{1301}
	if g, e := netlist.Graph(n); e != api.ErrLarge || !blank(g) {
		t.Errorf("%d ands, error %d", len(g.Ands), e)
	}
	// that many gates of one function are few ands
	for i := range n.Gates {
		n.Gates[i] = n.Gates[0]
	}
	if g, e := netlist.Graph(n); e != api.OK || len(g.Ands) > 189 {
		t.Errorf("%d ands, error %d", len(g.Ands), e)
	}
}
