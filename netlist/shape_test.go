package netlist_test

import (
	"math/rand"
	"slices"
	"testing"

	"maskwright/api"
	"maskwright/netlist"
)

// P15.7
func TestLoadsOfBase(t *testing.T) {
	n := base()
	n.Gates = append(n.Gates, api.Gate{Table: 5, Ins: []int{1, 8, 1, 8, 2}})
	n.Outs, n.Out = []int{8, 4, 8, 1}, []string{"o", "p", "q", "r"}
	n.Flops[1].D, n.Flops[1].En = 8, 8
	want := [][]netlist.Load{
		nil,
		{{Kind: netlist.Pin, At: 4, Pin: 0}, {Kind: netlist.Pin, At: 4, Pin: 2}, {Kind: netlist.Enable, At: 0}, {Kind: netlist.Port, At: 3}},
		{{Kind: netlist.Pin, At: 0, Pin: 0}, {Kind: netlist.Pin, At: 4, Pin: 4}},
		{{Kind: netlist.Pin, At: 0, Pin: 1}},
		{{Kind: netlist.Pin, At: 1, Pin: 0}, {Kind: netlist.Port, At: 1}},
		{{Kind: netlist.Pin, At: 2, Pin: 1}},
		{{Kind: netlist.Pin, At: 2, Pin: 0}},
		{{Kind: netlist.Pin, At: 2, Pin: 2}},
		{{Kind: netlist.Pin, At: 4, Pin: 1}, {Kind: netlist.Pin, At: 4, Pin: 3}, {Kind: netlist.Data, At: 0}, {Kind: netlist.Data, At: 1}, {Kind: netlist.Enable, At: 1}, {Kind: netlist.Port, At: 0}, {Kind: netlist.Port, At: 2}},
		nil,
		nil,
	}
	if l, e := netlist.Loads(n); e != api.OK || !slices.EqualFunc(l, want, slices.Equal) {
		t.Errorf("%v, error %d", l, e)
	}
	if l, e := netlist.Loads(api.Netlist{}); e != api.OK || len(l) != 2 || len(l[0])+len(l[1]) > 0 {
		t.Errorf("%v, error %d", l, e)
	}
}

// P15.7
func TestKindsOfLoads(t *testing.T) {
	if netlist.Pin != 0 || netlist.Data != 1 || netlist.Enable != 2 || netlist.Port != 3 || netlist.MaxArea != 64 {
		t.Error("the constants have other values")
	}
}

// loadsOf looks through a netlist for one net; it uses nothing of the program.
func loadsOf(n api.Netlist, net int) []netlist.Load {
	var l []netlist.Load
	for i, g := range n.Gates {
		for k := range g.Ins {
			if g.Ins[k] == net {
				l = append(l, netlist.Load{Kind: 0, At: i, Pin: k})
			}
		}
	}
	for i := range 2 * len(n.Flops) {
		f := n.Flops[i/2]
		if i%2 == 0 && f.D == net || i%2 == 1 && f.En == net {
			l = append(l, netlist.Load{Kind: 1 + i%2, At: i / 2})
		}
	}
	for i := range n.Outs {
		if n.Outs[i] == net {
			l = append(l, netlist.Load{Kind: 3, At: i})
		}
	}
	return l
}

// P15.7
func TestLoadsOfRandomNetlists(t *testing.T) {
	r := rand.New(rand.NewSource(157))
	for range 300 {
		n := grown(r)
		l, e := netlist.Loads(n)
		if e != api.OK || len(l) != 2+len(n.In)+len(n.Flops)+len(n.Gates) {
			t.Fatalf("%v: loads of %d nets, error %d", n, len(l), e)
		}
		for i := range l {
			if !slices.Equal(l[i], loadsOf(n, i)) {
				t.Errorf("%v: net %d: %v", n, i, l[i])
			}
		}
	}
}

// P15.8
func TestLevels(t *testing.T) {
	chain := api.Netlist{Gates: []api.Gate{{Table: 1}, {Table: 1, Ins: []int{2}}, {Table: 1, Ins: []int{1}}, {Table: 9, Ins: []int{2, 3}}, {Ins: []int{5, 5, 4}}}}
	with := func(change func(n *api.Netlist)) api.Netlist {
		n := netlist.Copy(chain)
		change(&n)
		return n
	}
	for i, x := range []struct {
		n      api.Netlist
		levels []int
		depth  int
	}{
		{api.Netlist{}, []int{0, 0}, 0},
		{base(), []int{0, 0, 0, 0, 0, 0, 1, 1, 2, 1}, 2},
		{chain, []int{0, 0, 1, 2, 1, 3, 4}, 0},
		{with(func(n *api.Netlist) { n.Out, n.Outs = []string{"o"}, []int{1} }), []int{0, 0, 1, 2, 1, 3, 4}, 0},
		{with(func(n *api.Netlist) { n.Out, n.Outs = []string{"o", "p"}, []int{3, 2} }), []int{0, 0, 1, 2, 1, 3, 4}, 2},
		{with(func(n *api.Netlist) { n.Flops = []api.Flop{{Name: "r", D: 0, En: 1}} }), []int{0, 0, 0, 1, 1, 1, 2, 2}, 0},
		{with(func(n *api.Netlist) { n.Flops = []api.Flop{{Name: "r", D: 6, En: 3}} }), []int{0, 0, 0, 1, 1, 1, 2, 2}, 2},
		{with(func(n *api.Netlist) { n.Flops = []api.Flop{{Name: "r", D: 3, En: 6}} }), []int{0, 0, 0, 1, 1, 1, 2, 2}, 2},
		{with(func(n *api.Netlist) { n.Flops = []api.Flop{{Name: "r", D: 3, En: 1}} }), []int{0, 0, 0, 1, 1, 1, 2, 2}, 1},
	} {
		levels, e := netlist.Levels(x.n)
		depth, f := netlist.Depth(x.n)
		if e != api.OK || f != api.OK || !slices.Equal(levels, x.levels) || depth != x.depth {
			t.Errorf("%d: levels %v, depth %d, errors %d and %d", i, levels, depth, e, f)
		}
	}
}

// rootsOf returns the nets of the outputs and of the inputs of flip-flops; it uses nothing of the program.
func rootsOf(n api.Netlist) []int {
	l := slices.Clone(n.Outs)
	for _, f := range n.Flops {
		l = append(l, f.En, f.D)
	}
	return l
}

// P15.8
func TestLevelsOfRandomNetlists(t *testing.T) {
	r := rand.New(rand.NewSource(158))
	for range 300 {
		n := grown(r)
		first := 2 + len(n.In) + len(n.Flops)
		longest := map[int]int{} // the number of gates on the longest way up to a net; 0 if there is none
		for i, g := range n.Gates {
			longest[first+i] = 1
			for _, x := range g.Ins {
				longest[first+i] = max(longest[first+i], longest[x]+1)
			}
		}
		levels, e := netlist.Levels(n)
		if e != api.OK || len(levels) != first+len(n.Gates) {
			t.Fatalf("%v: %d levels, error %d", n, len(levels), e)
		}
		for i, l := range levels {
			if l != longest[i] {
				t.Errorf("%v: net %d has level %d", n, i, l)
			}
		}
		want := 0
		for _, x := range rootsOf(n) {
			want = max(want, longest[x])
		}
		if depth, e := netlist.Depth(n); depth != want || e != api.OK {
			t.Errorf("%v: depth %d, not %d, error %d", n, depth, want, e)
		}
	}
}
