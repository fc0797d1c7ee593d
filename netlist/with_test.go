package netlist_test

import (
	"math"
	"math/rand"
	"slices"
	"testing"

	"maskwright/api"
	"maskwright/netlist"
)

// P15.11: the example of the chapter, and one with registers
func TestWith(t *testing.T) {
	g := api.Graph{In: []string{"a", "b"}, Out: []string{"o"}, Ands: []api.Node{{A: 2, B: 5}}, Outs: []api.Lit{7}}
	want := api.Netlist{In: g.In, Out: g.Out, Gates: []api.Gate{{Cell: -1, Table: 2, Ins: []int{2, 3}}, {Cell: -1, Table: 1, Ins: []int{4}}}, Outs: []int{5}}
	if n, e := netlist.With(g, nil, nil); e != api.OK || !sameMembers(n, want) {
		t.Errorf("%v, error %d", n, e)
	}
	if n, e := netlist.Of(g); e != api.OK || !sameMembers(n, want) {
		t.Errorf("%v, error %d", n, e)
	}
	// nets: a 2, r 3, s 4, the gates 5, 6, 7 and 8, then inverters of 8, a, r and 5
	g = api.Graph{
		In: []string{"a"}, Out: []string{"o", "p", "q", "x"},
		Regs: []api.Reg{{Name: "r", Next: 6, Init: true}, {Name: "s", Next: 15}},
		Ands: []api.Node{{A: 2, B: 4}, {A: 3, B: 1}, {A: 8, B: 5}, {A: 11, B: 0}},
		Outs: []api.Lit{15, 0, 1, 14},
	}
	want = api.Netlist{
		In: g.In, Out: g.Out,
		Flops: []api.Flop{{Name: "r", Cell: -1, D: 10, En: 11, Init: true}, {Name: "s", Cell: -1, D: 9, En: 12}},
		Gates: []api.Gate{
			{Cell: -1, Table: 8, Ins: []int{2, 3}}, {Cell: -1, Table: 1, Ins: []int{2, 0}}, {Cell: -1, Table: 2, Ins: []int{5, 3}}, {Cell: -1, Table: 4, Ins: []int{6, 0}},
			{Cell: -1, Table: 1, Ins: []int{8}}, {Cell: -1, Table: 1, Ins: []int{2}}, {Cell: -1, Table: 1, Ins: []int{3}}, {Cell: -1, Table: 1, Ins: []int{5}},
		},
		Outs: []int{9, 0, 1, 8},
	}
	if n, e := netlist.With(g, []api.Lit{3, 15}, []api.Lit{5, 9}); e != api.OK || !sameMembers(n, want) {
		t.Errorf("%v, error %d", n, e)
	}
	want.Flops[0].D, want.Flops[0].En, want.Flops[1].D, want.Flops[1].En = 4, 1, 9, 1
	want.Gates = want.Gates[:5]
	if n, e := netlist.Of(g); e != api.OK || !sameMembers(n, want) {
		t.Errorf("%v, error %d", n, e)
	}
	want.Flops[0].D, want.Flops[0].En, want.Flops[1].D, want.Flops[1].En = 0, 1, 1, 0
	if n, e := netlist.With(g, []api.Lit{0, 1}, []api.Lit{1, 0}); e != api.OK || !sameMembers(n, want) {
		t.Errorf("%v, error %d", n, e)
	}
}

// grownGraph returns a random valid graph, and as many literals for D and En as it has registers.
func grownGraph(r *rand.Rand) (g api.Graph, d, en []api.Lit) {
	g = api.Graph{In: some(r, names("i", 6)), Out: some(r, names("o", 6))}
	for _, name := range some(r, names("r", 5)) {
		g.Regs = append(g.Regs, api.Reg{Name: name, Init: r.Intn(2) == 0})
	}
	nodes := 1 + len(g.In) + len(g.Regs)
	lit := func() api.Lit {
		if r.Intn(2) == 0 {
			return api.Lit(r.Intn(min(4, 2*nodes)))
		}
		return api.Lit(r.Intn(2 * nodes))
	}
	for range r.Intn(20) {
		g.Ands = append(g.Ands, api.Node{A: lit(), B: lit()})
		nodes++
	}
	for range g.Out {
		g.Outs = append(g.Outs, lit())
	}
	for i := range g.Regs {
		g.Regs[i].Next = lit()
		d, en = append(d, lit()), append(en, lit())
	}
	return g, d, en
}

// netlistOf is what the chapter says of With, with a list of the literals that are needed; it uses nothing of the program.
func netlistOf(g api.Graph, d, en []api.Lit) api.Netlist {
	needed := slices.Clone(g.Outs)
	for i := range g.Regs {
		needed = append(needed, d[i], en[i])
	}
	var inverted []api.Lit
	for _, l := range needed {
		if l%2 == 1 && l != 1 && !slices.Contains(inverted, l) {
			inverted = append(inverted, l)
		}
	}
	nodes := 1 + len(g.In) + len(g.Regs) + len(g.Ands)
	net := func(l api.Lit) int {
		switch {
		case l < 2:
			return int(l)
		case l%2 == 0:
			return int(l)/2 + 1
		}
		return 1 + nodes + slices.Index(inverted, l)
	}
	n := api.Netlist{In: g.In, Out: g.Out}
	for _, x := range g.Ands {
		table := uint64(1)
		for range 3 - x.A%2 - 2*(x.B%2) {
			table *= 2
		}
		n.Gates = append(n.Gates, api.Gate{Cell: -1, Table: table, Ins: []int{net(x.A - x.A%2), net(x.B - x.B%2)}})
	}
	for _, l := range inverted {
		n.Gates = append(n.Gates, api.Gate{Cell: -1, Table: 1, Ins: []int{net(l - 1)}})
	}
	for i, x := range g.Regs {
		n.Flops = append(n.Flops, api.Flop{Name: x.Name, Cell: -1, D: net(d[i]), En: net(en[i]), Init: x.Init})
	}
	for _, l := range g.Outs {
		n.Outs = append(n.Outs, net(l))
	}
	return n
}

// bit returns the value of a literal of a graph in one lane, from the roots down; it uses nothing of the program.
func bit(g api.Graph, in, state []bool, l api.Lit) bool {
	node := int(l) / 2
	v := false
	switch first := 1 + len(in) + len(state); {
	case node == 0:
	case node <= len(in):
		v = in[node-1]
	case node < first:
		v = state[node-1-len(in)]
	default:
		x := g.Ands[node-first]
		v = bit(g, in, state, x.A) && bit(g, in, state, x.B)
	}
	return v != (l%2 == 1)
}

// P15.11
func TestWithOfRandomGraphs(t *testing.T) {
	r := rand.New(rand.NewSource(1511))
	for range 500 {
		g, d, en := grownGraph(r)
		n, e := netlist.With(g, d, en)
		if want := netlistOf(g, d, en); e != api.OK || !sameMembers(n, want) {
			t.Fatalf("%v, %v, %v: %v, not %v, error %d", g, d, en, n, want, e)
		}
		if e := netlist.Form(n); e != api.OK {
			t.Errorf("%v: error %d", n, e)
		}
		in, state := laneOf(words(r, len(g.In)), 7), laneOf(words(r, len(g.Regs)), 7)
		var outs, next []bool
		for _, l := range g.Outs {
			outs = append(outs, bit(g, in, state, l))
		}
		for i := range g.Regs {
			if v := bit(g, in, state, d[i]); bit(g, in, state, en[i]) {
				next = append(next, v)
			} else {
				next = append(next, state[i])
			}
		}
		if o, s, e := netlist.Eval(n, in, state); e != api.OK || !slices.Equal(o, outs) || !slices.Equal(s, next) {
			t.Errorf("%v, %v, %v: another function, error %d: %v", g, d, en, e, n)
		}
		d, en = nil, nil
		for _, x := range g.Regs {
			d, en = append(d, x.Next), append(en, 1)
		}
		n, e = netlist.Of(g)
		if want := netlistOf(g, d, en); e != api.OK || !sameMembers(n, want) {
			t.Fatalf("%v: %v, not %v, error %d", g, n, want, e)
		}
	}
}

// P15.11
func TestWithErrors(t *testing.T) {
	graph := func() api.Graph { // five nodes
		return api.Graph{In: []string{"a"}, Out: []string{"o"}, Regs: regs("r", 2), Ands: []api.Node{{A: 2, B: 5}}, Outs: []api.Lit{8}}
	}
	invalid, twice := graph(), graph()
	invalid.Regs[1].Next = 10
	twice.In[0] = "r1"
	two := []api.Lit{2, 9}
	for i, x := range []struct {
		g     api.Graph
		d, en []api.Lit
		e     api.Errno
	}{
		{graph(), two, two, api.OK},
		{invalid, two, two, api.ErrRange}, {twice, two, two, api.ErrTwice}, {twice, nil, two, api.ErrTwice}, {twice, two, []api.Lit{-1, 1}, api.ErrTwice}, {invalid, nil, nil, api.ErrRange},
		{graph(), nil, nil, api.ErrForm}, {graph(), two, nil, api.ErrForm}, {graph(), nil, two, api.ErrForm}, {graph(), two, two[:1], api.ErrForm}, {graph(), two[:1], two, api.ErrForm},
		{graph(), two, []api.Lit{2, 3, 4}, api.ErrForm}, {graph(), []api.Lit{2, 3, 4}, two, api.ErrForm}, {graph(), []api.Lit{2, 3, 4}, two[:1], api.ErrForm}, {graph(), []api.Lit{2, 3, 4}, []api.Lit{2, 3, 4}, api.ErrForm},
		{graph(), []api.Lit{-1, 10, 3}, two, api.ErrForm}, {graph(), []api.Lit{-1, 10}, nil, api.ErrForm}, {graph(), two, []api.Lit{99}, api.ErrForm},
		{graph(), []api.Lit{10, 2}, two, api.ErrRange}, {graph(), []api.Lit{2, 11}, two, api.ErrRange}, {graph(), []api.Lit{-1, 2}, two, api.ErrRange}, {graph(), []api.Lit{2, -2}, two, api.ErrRange},
		{graph(), two, []api.Lit{10, 2}, api.ErrRange}, {graph(), two, []api.Lit{2, 11}, api.ErrRange}, {graph(), two, []api.Lit{-1, 2}, api.ErrRange}, {graph(), two, []api.Lit{2, -2}, api.ErrRange},
		{graph(), two, []api.Lit{math.MinInt, 2}, api.ErrRange}, {graph(), []api.Lit{math.MaxInt, 2}, two, api.ErrRange}, {graph(), []api.Lit{math.MinInt, 2}, two, api.ErrRange}, {graph(), two, []api.Lit{math.MaxInt - 1, 2}, api.ErrRange},
		{api.Graph{}, nil, nil, api.OK}, {api.Graph{}, []api.Lit{1}, nil, api.ErrForm}, {api.Graph{}, nil, []api.Lit{1}, api.ErrForm},
	} {
		if n, e := netlist.With(x.g, x.d, x.en); e != x.e || e != api.OK && !blank(n) {
			t.Errorf("%d: %v, error %d, not %d", i, n, e, x.e)
		}
	}
	if n, e := netlist.Of(invalid); e != api.ErrRange || !blank(n) {
		t.Errorf("%v, error %d", n, e)
	}
	if n, e := netlist.Of(twice); e != api.ErrTwice || !blank(n) {
		t.Errorf("%v, error %d", n, e)
	}
}

// P15.11: the gates of the result, with their inverters, are at most MaxGates.
func TestWithLimit(t *testing.T) {
	with := func(ands int, outs ...api.Lit) api.Graph {
		return api.Graph{In: []string{"a", "b"}, Out: names("o", len(outs)), Regs: []api.Reg{{Name: "r", Next: 2}}, Ands: make([]api.Node, ands), Outs: outs}
	}
	full := api.Graph{In: names("i", 128), Out: names("i", 128), Regs: regs("r", 288), Ands: make([]api.Node, 4000), Outs: make([]api.Lit, 128)}
	for i, x := range []struct {
		g     api.Graph
		d, en api.Lit
		e     api.Errno
	}{
		{with(1200), 2, 1, api.OK}, {with(1201), 2, 1, api.ErrLarge}, {with(1200, 0, 1, 2), 1, 1, api.OK}, {with(1200, 3), 2, 1, api.ErrLarge}, {with(1200), 3, 1, api.ErrLarge}, {with(1200), 1, 3, api.ErrLarge},
		{with(1199, 3, 3), 3, 3, api.OK}, {with(1199, 3, 3), 3, 5, api.ErrLarge}, {with(1198, 3, 3), 3, 5, api.OK}, {with(1198, 3, 3), 7, 5, api.ErrLarge}, {with(4000), 2, 1, api.ErrLarge},
		{with(1201), 2, -1, api.ErrRange},
	} {
		n, e := netlist.With(x.g, []api.Lit{x.d}, []api.Lit{x.en})
		if e != x.e || e != api.OK && !blank(n) || e == api.OK && !sameMembers(n, netlistOf(x.g, []api.Lit{x.d}, []api.Lit{x.en})) {
			t.Errorf("%d: error %d, not %d", i, e, x.e)
		}
	}
	if n, e := netlist.Of(full); e != api.ErrLarge || !blank(n) {
		t.Errorf("error %d", e)
	}
	full.Ands = full.Ands[:1200]
	if n, e := netlist.Of(full); e != api.OK || len(n.Flops) != 288 {
		t.Errorf("error %d", e)
	}
}
