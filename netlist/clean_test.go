package netlist_test

import (
	"math/rand"
	"slices"
	"testing"

	"maskwright/api"
	"maskwright/netlist"
)

// P15.9
func TestClean(t *testing.T) {
	with := func(change func(n *api.Netlist)) api.Netlist {
		n := base()
		n.Gates[0].Cell, n.Gates[2].Cell, n.Flops[1].Cell = 5, -9, 7
		change(&n)
		return n
	}
	for _, x := range []struct {
		what    string
		before  func(n *api.Netlist)
		after   func(n *api.Netlist) // after before
		numbers []int
	}{
		{"without the last", func(n *api.Netlist) {}, func(n *api.Netlist) { n.Gates = n.Gates[:3] }, []int{0, 1, 2, 3, 4, 5, 6, 7, 8, -1}},
		{"all", func(n *api.Netlist) { n.Outs[1] = 9 }, func(n *api.Netlist) {}, []int{0, 1, 2, 3, 4, 5, 6, 7, 8, 9}},
		{"the last as an enable", func(n *api.Netlist) { n.Flops[0].En = 9 }, func(n *api.Netlist) {}, []int{0, 1, 2, 3, 4, 5, 6, 7, 8, 9}},
		{"the last as data", func(n *api.Netlist) { n.Flops[1].D = 9 }, func(n *api.Netlist) {}, []int{0, 1, 2, 3, 4, 5, 6, 7, 8, 9}},
		{"without the one between", func(n *api.Netlist) { n.Gates[2].Ins[2] = 6 }, func(n *api.Netlist) {
			n.Gates = []api.Gate{n.Gates[0], n.Gates[2]}
			n.Outs[0], n.Flops[0].D = 7, 7
		}, []int{0, 1, 2, 3, 4, 5, 6, -1, 7, -1}},
		{"without the first", func(n *api.Netlist) { n.Gates[2].Ins[0], n.Flops[1].En, n.Outs[1] = 0, 1, 9 }, func(n *api.Netlist) {
			n.Gates = n.Gates[1:]
			n.Gates[1].Ins[2] = 6
			n.Outs[0], n.Outs[1], n.Flops[0].D = 7, 8, 7
		}, []int{0, 1, 2, 3, 4, 5, -1, 6, 7, 8}},
		{"nothing but inputs", func(n *api.Netlist) { n.Outs, n.Out, n.Flops = nil, nil, nil; n.Gates = n.Gates[:1] }, func(n *api.Netlist) { n.Gates = nil }, []int{0, 1, 2, 3, -1}},
		{"double ones", func(n *api.Netlist) {
			n.Gates[3].Table = 0
			n.Gates = append(n.Gates, n.Gates[3])
			n.Outs[0], n.Outs[1] = 9, 10
		}, func(n *api.Netlist) {}, []int{0, 1, 2, 3, 4, 5, 6, 7, 8, 9, 10}},
	} {
		n := with(x.before)
		want := with(func(n *api.Netlist) { x.before(n); x.after(n) })
		if c, numbers, e := netlist.Clean(n); e != api.OK || !sameMembers(c, want) || !slices.Equal(numbers, x.numbers) {
			t.Errorf("%s: %v, %v, error %d", x.what, c, numbers, e)
		}
	}
}

// reached returns the nets from which outputs and flip-flops are computed, found from the roots on; it uses nothing of the program.
func reached(n api.Netlist) map[int]bool {
	found := map[int]bool{}
	work := rootsOf(n)
	for len(work) > 0 {
		x := work[0]
		work = work[1:]
		if i := x - 2 - len(n.In) - len(n.Flops); !found[x] && i >= 0 {
			work = append(work, n.Gates[i].Ins...)
		}
		found[x] = true
	}
	return found
}

// P15.9
func TestCleanOfRandomNetlists(t *testing.T) {
	r := rand.New(rand.NewSource(159))
	less := 0
	for range 300 {
		n := grown(r)
		first := 2 + len(n.In) + len(n.Flops)
		found := reached(n)
		want := api.Netlist{In: n.In, Out: n.Out}
		var numbers []int
		number := func(l []int) []int {
			var to []int
			for _, x := range l {
				to = append(to, numbers[x])
			}
			return to
		}
		for i := range first + len(n.Gates) {
			switch {
			case i < first:
				numbers = append(numbers, i)
			case found[i]:
				g := n.Gates[i-first]
				want.Gates = append(want.Gates, api.Gate{Cell: g.Cell, Table: g.Table, Ins: number(g.Ins)})
				numbers = append(numbers, first+len(want.Gates)-1)
			default:
				numbers = append(numbers, -1)
				less++
			}
		}
		for _, f := range n.Flops {
			f.D, f.En = numbers[f.D], numbers[f.En]
			want.Flops = append(want.Flops, f)
		}
		want.Outs = number(n.Outs)
		c, l, e := netlist.Clean(n)
		if e != api.OK || !sameMembers(c, want) || !slices.Equal(l, numbers) {
			t.Fatalf("%v: %v, %v, error %d", n, c, l, e)
		}
		in, state := words(r, len(n.In)), words(r, len(n.Flops))
		o, s, _ := netlist.Words(n, in, state)
		p, q, e := netlist.Words(c, in, state)
		if e != api.OK || !slices.Equal(o, p) || !slices.Equal(s, q) {
			t.Errorf("%v: another function, error %d: %v", n, e, c)
		}
	}
	if less < 100 {
		t.Errorf("only %d gates are left out", less)
	}
}
