package netlist_test

import (
	"math"
	"math/rand"
	"slices"
	"strings"
	"testing"

	"maskwright/api"
	"maskwright/netlist"
)

// First and Nets
func TestNumbers(t *testing.T) {
	for _, x := range []struct {
		n           api.Netlist
		first, nets int
	}{
		{api.Netlist{}, 2, 2},
		{base(), 6, 10},
		{api.Netlist{In: make([]string, 1000), Flops: make([]api.Flop, 500), Gates: make([]api.Gate, 3000)}, 1502, 4502},
		{api.Netlist{In: []string{""}, Out: names("o", 9), Outs: []int{-1}}, 3, 3},
	} {
		if first, nets := netlist.First(x.n), netlist.Nets(x.n); first != x.first || nets != x.nets {
			t.Errorf("%d and %d, not %d and %d", first, nets, x.first, x.nets)
		}
	}
}

// P15.1
func TestMask(t *testing.T) {
	for i, want := range masks {
		if w := netlist.Mask(i); w != want {
			t.Errorf("%d inputs: %x, not %x", i, w, want)
		}
	}
	for _, i := range []int{math.MinInt, -64, -2, -1, 7, 8, 63, 64, 65, 1 << 32, 1<<32 + 3, math.MaxInt} {
		if w := netlist.Mask(i); w != 0 {
			t.Errorf("%d inputs: %x", i, w)
		}
	}
}

// fault is something that is wrong with a netlist: its place in the order of P15.2, the change, and the error.
type fault struct {
	place int
	do    func(n *api.Netlist)
	e     api.Errno
}

// faults returns faults for base, in order; two of different places can be made together.
func faults() []fault {
	return slices.Concat(sizeFaults(), nameFaults(), gateFaults(), netFaults())
}

func sizeFaults() []fault {
	return []fault{
		{1, func(n *api.Netlist) { n.In = append(n.In, names("x", 127)...) }, api.ErrLarge},
		{1, func(n *api.Netlist) {
			n.Out, n.Outs = append(n.Out, names("x", 127)...), append(n.Outs, make([]int, 127)...)
		}, api.ErrLarge},
		{1, func(n *api.Netlist) { n.Flops = append(n.Flops, flops("x", 287)...) }, api.ErrLarge},
		{1, func(n *api.Netlist) { n.Gates = append(n.Gates, make([]api.Gate, 1197)...) }, api.ErrLarge},
		{1, func(n *api.Netlist) { n.Out = append(n.Out, names("x", 127)...) }, api.ErrLarge},
		{2, func(n *api.Netlist) { n.Outs = append(n.Outs, 2) }, api.ErrForm},
		{2, func(n *api.Netlist) { n.Outs = n.Outs[1:] }, api.ErrForm},
		{2, func(n *api.Netlist) { n.Outs = make([]int, 129) }, api.ErrForm},
		{2, func(n *api.Netlist) { n.Out = append(n.Out, "x") }, api.ErrForm},
	}
}

func nameFaults() []fault {
	return []fault{
		{3, func(n *api.Netlist) { n.In[1] = "" }, api.ErrName},
		{3, func(n *api.Netlist) { n.In[0] = "a b" }, api.ErrName},
		{3, func(n *api.Netlist) { n.In[1] = n.In[0] }, api.ErrTwice},
		{3, func(n *api.Netlist) { n.In[1], n.Flops[0].Name = n.In[0], "" }, api.ErrTwice},
		{3, func(n *api.Netlist) { n.In[1], n.Flops[0].Name = "", n.In[0] }, api.ErrName},
		{3, func(n *api.Netlist) { n.Flops[0].Name = n.In[0] }, api.ErrTwice},
		{3, func(n *api.Netlist) { n.Flops[1].Name = n.Flops[0].Name }, api.ErrTwice},
		{3, func(n *api.Netlist) { n.Flops[0].Name = "é" }, api.ErrName},
		{3, func(n *api.Netlist) { n.Flops[1].Name = strings.Repeat("r", 129) }, api.ErrName},
		{3, func(n *api.Netlist) { n.Flops[0].Name, n.Flops[1].Name = n.In[1], " " }, api.ErrTwice},
		{4, func(n *api.Netlist) { n.Out[0] = "" }, api.ErrName},
		{4, func(n *api.Netlist) { n.Out[1] = "\x7f" }, api.ErrName},
		{4, func(n *api.Netlist) { n.Out[1] = n.Out[0] }, api.ErrTwice},
		{4, func(n *api.Netlist) { n.Out[0], n.Out[1] = "\t", "\t" }, api.ErrName},
	}
}

// gateFaults returns the faults of three gates, each with places of its own.
func gateFaults() []fault {
	var l []fault
	for i := range 3 {
		gate := func(place int, do func(g *api.Gate), e api.Errno) {
			l = append(l, fault{5 + 3*i + place, func(n *api.Netlist) { do(&n.Gates[i]) }, e})
		}
		gate(0, func(g *api.Gate) { g.Ins = append(g.Ins, make([]int, 7-len(g.Ins))...) }, api.ErrLarge)
		gate(0, func(g *api.Gate) { g.Ins = append(g.Ins, make([]int, 1000)...) }, api.ErrLarge)
		gate(1, func(g *api.Gate) { g.Table |= 1 << (1 << len(g.Ins)) }, api.ErrForm)
		gate(1, func(g *api.Gate) { g.Table |= 1 << 63 }, api.ErrForm)
		gate(2, func(g *api.Gate) { g.Ins[0] = -1 }, api.ErrRange)
		gate(2, func(g *api.Gate) { g.Ins[len(g.Ins)-1] = 6 + i }, api.ErrRange)
		gate(2, func(g *api.Gate) { g.Ins[0] = 99_999 }, api.ErrRange)
		gate(2, func(g *api.Gate) { g.Ins[0] = math.MaxInt }, api.ErrRange)
		gate(2, func(g *api.Gate) { g.Ins[len(g.Ins)-1] = math.MinInt }, api.ErrRange)
	}
	return l
}

func netFaults() []fault {
	return []fault{
		{14, func(n *api.Netlist) { n.Flops[0].D = -1 }, api.ErrRange},
		{14, func(n *api.Netlist) { n.Flops[0].En = 99_999 }, api.ErrRange},
		{14, func(n *api.Netlist) { n.Flops[1].D = math.MaxInt }, api.ErrRange},
		{14, func(n *api.Netlist) { n.Flops[1].En = -1 }, api.ErrRange},
		{14, func(n *api.Netlist) { n.Outs[0] = math.MinInt }, api.ErrRange},
		{14, func(n *api.Netlist) { n.Outs[1] = 99_999 }, api.ErrRange},
	}
}

// P15.2
func TestFormFaults(t *testing.T) {
	all := faults()
	for i, f := range all {
		n := base()
		f.do(&n)
		if e := netlist.Form(n); e != f.e {
			t.Errorf("fault %d: error %d, not %d", i, e, f.e)
		}
		for k, later := range all[i+1:] {
			if later.place == f.place {
				continue
			}
			n := base() // the earlier one is made last, so that the later one finds what it needs
			later.do(&n)
			f.do(&n)
			if e := netlist.Form(n); e != f.e {
				t.Errorf("fault %d and %d: error %d, not %d", i, i+1+k, e, f.e)
			}
		}
	}
}

// full returns a netlist that has as much of everything as is permitted, with the nets from 418 on for gates.
func full() api.Netlist {
	n := api.Netlist{In: names("i", 128), Out: names("i", 128), Flops: flops("r", 288), Gates: make([]api.Gate, 1200), Outs: make([]int, 128)}
	for i := range n.Gates {
		n.Gates[i] = api.Gate{Cell: 7, Table: 1<<64 - 1, Ins: []int{0, 1, 2, 417, 417 + i, 417 + i}}
	}
	n.Outs[127], n.Flops[287].D, n.Flops[287].En = 1617, 1617, 1617
	return n
}

// P15.2
func TestFormLimits(t *testing.T) {
	for _, n := range []api.Netlist{
		{}, full(), base(), {Outs: []int{}}, {Out: []string{"o"}, Outs: []int{1}}, {Flops: []api.Flop{{Name: "r", D: 2, En: 2, Cell: -99}}},
		{Gates: []api.Gate{{Cell: math.MinInt}, {Cell: math.MaxInt, Table: 1}}},
	} {
		if e := netlist.Form(n); e != api.OK {
			t.Errorf("%d inputs: error %d", len(n.In), e)
		}
	}
	for i, f := range []func(n *api.Netlist){
		func(n *api.Netlist) { n.Outs[127]++ },
		func(n *api.Netlist) { n.Flops[287].D++ },
		func(n *api.Netlist) { n.Flops[287].En++ },
		func(n *api.Netlist) { n.Gates[1199].Ins[5]++ },
		func(n *api.Netlist) { n.Gates[0].Ins[5]++ },
	} {
		n := full()
		f(&n)
		if e := netlist.Form(n); e != api.ErrRange {
			t.Errorf("%d: error %d", i, e)
		}
	}
}

// P15.2
func TestFormTables(t *testing.T) {
	for i, m := range masks {
		n := api.Netlist{Gates: []api.Gate{{Ins: make([]int, i)}}}
		for k := range 64 {
			n.Gates[0].Table = 1 << k
			want := api.ErrForm
			if k < 1<<i {
				want = api.OK
			}
			if e := netlist.Form(n); e != want {
				t.Errorf("%d inputs, bit %d: error %d", i, k, e)
			}
		}
		n.Gates[0].Table = m
		if e := netlist.Form(n); e != api.OK {
			t.Errorf("%d inputs, all bits: error %d", i, e)
		}
	}
}

// outside gives a place for a net all values near what is permitted below a number of nets, and far from it, and checks each one.
func outside(t *testing.T, what string, n api.Netlist, net *int, nets int) {
	t.Helper()
	old := *net
	for _, x := range []int{math.MinInt, -2, -1, 0, 1, 2, nets - 1, nets, nets + 1, 1 << 40, math.MaxInt} {
		want := api.OK
		if x < 0 || x >= nets {
			want = api.ErrRange
		}
		*net = x
		if e := netlist.Form(n); e != want {
			t.Errorf("%s: net %d of %d: error %d, not %d", what, x, nets, e, want)
		}
	}
	*net = old
}

// P15.2
func TestFormNets(t *testing.T) {
	r := rand.New(rand.NewSource(15))
	for range 100 {
		n := grown(r)
		if e := netlist.Form(n); e != api.OK {
			t.Fatalf("%v: error %d", n, e)
		}
		first := 2 + len(n.In) + len(n.Flops)
		for i, g := range n.Gates {
			for k := range g.Ins {
				outside(t, "input", n, &n.Gates[i].Ins[k], first+i)
			}
		}
		for i := range n.Flops {
			outside(t, "data", n, &n.Flops[i].D, first+len(n.Gates))
			outside(t, "enable", n, &n.Flops[i].En, first+len(n.Gates))
		}
		for i := range n.Outs {
			outside(t, "output", n, &n.Outs[i], first+len(n.Gates))
		}
	}
}
