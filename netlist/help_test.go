package netlist_test

import (
	"math/rand"
	"reflect"
	"slices"
	"strconv"
	"testing"

	"maskwright/api"
	"maskwright/netlist"
)

// base returns a valid netlist with the nets a 2, b 3, r 4, s 5, and the gates 6 (a and b), 7 (the opposite of r), 8 (7 if 6 is 1, otherwise s), and 9, which is 1.
func base() api.Netlist {
	return api.Netlist{
		In:    []string{"a", "b"},
		Out:   []string{"o", "p"},
		Flops: []api.Flop{{Name: "r", Cell: -1, D: 8, En: 1, Init: true}, {Name: "s", Cell: -1, D: 3, En: 6}},
		Gates: []api.Gate{
			{Cell: -1, Table: 8, Ins: []int{2, 3}},
			{Cell: -1, Table: 1, Ins: []int{4}},
			{Cell: -1, Table: 0b11100100, Ins: []int{6, 5, 7}},
			{Cell: -1, Table: 1},
		},
		Outs: []int{8, 4},
	}
}

// names returns n names with numbers.
func names(s string, n int) []string {
	var l []string
	for i := range n {
		l = append(l, s+strconv.Itoa(i))
	}
	return l
}

// flops returns n flip-flops with numbers.
func flops(s string, n int) []api.Flop {
	var l []api.Flop
	for _, x := range names(s, n) {
		l = append(l, api.Flop{Name: x, Cell: -1})
	}
	return l
}

// regs returns n registers with numbers.
func regs(s string, n int) []api.Reg {
	var l []api.Reg
	for _, x := range names(s, n) {
		l = append(l, api.Reg{Name: x})
	}
	return l
}

// some returns the elements of a list that a random source chooses, in a random order.
func some(r *rand.Rand, l []string) []string {
	l = slices.Clone(l)
	r.Shuffle(len(l), func(i, k int) { l[i], l[k] = l[k], l[i] })
	return l[:r.Intn(len(l)+1)]
}

// masks are the tables with all bits, for each number of inputs.
var masks = []uint64{1, 3, 15, 255, 65535, 1<<32 - 1, 1<<64 - 1}

// grown returns a random valid netlist, with cells that can be anything.
func grown(r *rand.Rand) api.Netlist {
	n := api.Netlist{In: some(r, names("i", 6)), Out: some(r, names("o", 6))}
	cell := func() int { return r.Intn(9) - 3 }
	for _, name := range some(r, names("r", 5)) {
		n.Flops = append(n.Flops, api.Flop{Name: name, Cell: cell(), Init: r.Intn(2) == 0})
	}
	nets := 2 + len(n.In) + len(n.Flops)
	net := func() int {
		if r.Intn(3) > 0 { // one of the last nets
			return nets - 1 - r.Intn(min(7, nets))
		}
		return r.Intn(nets)
	}
	for range r.Intn(25) {
		g := api.Gate{Cell: cell()}
		for range r.Intn(7) {
			g.Ins = append(g.Ins, net())
		}
		g.Table = r.Uint64() & masks[len(g.Ins)]
		n.Gates = append(n.Gates, g)
		nets++
	}
	for range n.Out {
		n.Outs = append(n.Outs, net())
	}
	for i := range n.Flops {
		n.Flops[i].D, n.Flops[i].En = net(), net()
	}
	return n
}

// sameGates reports whether two gates have equal members.
func sameGates(a, b api.Gate) bool {
	return a.Cell == b.Cell && a.Table == b.Table && slices.Equal(a.Ins, b.Ins)
}

// sameMembers reports whether two netlists have equal members; it uses nothing of the program.
func sameMembers(a, b api.Netlist) bool {
	return slices.Equal(a.In, b.In) && slices.Equal(a.Out, b.Out) && slices.Equal(a.Flops, b.Flops) && slices.EqualFunc(a.Gates, b.Gates, sameGates) && slices.Equal(a.Outs, b.Outs)
}

// blank reports whether all values are zero, or lists without elements.
func blank(l ...any) bool {
	for _, x := range l {
		v := reflect.ValueOf(x)
		switch {
		case v.Kind() == reflect.Slice:
			if v.Len() > 0 {
				return false
			}
		case v.Kind() == reflect.Struct:
			for i := range v.NumField() {
				if !blank(v.Field(i).Interface()) {
					return false
				}
			}
		case !v.IsZero():
			return false
		}
	}
	return true
}

// all calls each function that needs a netlist of the right form, with arguments that fit it, and visits its name, its error, and its other results.
func all(n api.Netlist, visit func(what string, e api.Errno, results ...any)) {
	in, state := make([]uint64, len(n.In)), make([]uint64, len(n.Flops))
	v, e := netlist.Values(n, in, state)
	visit("Values", e, v)
	o, s, e := netlist.Words(n, in, state)
	visit("Words", e, o, s)
	p, q, e := netlist.Eval(n, make([]bool, len(n.In)), make([]bool, len(n.Flops)))
	visit("Eval", e, p, q)
	t, e := netlist.Run(n, [][]bool{make([]bool, len(n.In)), make([]bool, len(n.In))})
	visit("Run", e, t)
	l, e := netlist.Loads(n)
	visit("Loads", e, l)
	h, e := netlist.Levels(n)
	visit("Levels", e, h)
	d, e := netlist.Depth(n)
	visit("Depth", e, d)
	c, numbers, e := netlist.Clean(n)
	visit("Clean", e, c, numbers)
	g, e := netlist.Graph(n)
	visit("Graph", e, g)
}

// TestInvalid checks that every function returns the error of Form of a netlist, and nothing else (Z3).
func TestInvalid(t *testing.T) {
	for i, f := range faults() {
		n := base()
		f.do(&n)
		check := func(what string, e api.Errno, results ...any) {
			if e != f.e || !blank(results...) {
				t.Errorf("%s of netlist %d: error %d, not %d, and %v", what, i, e, f.e, results)
			}
		}
		all(n, check)
		check("Check", netlist.Check(n, nil))
		area, e := netlist.Area(n, nil)
		check("Area", e, area)
	}
	all(base(), func(what string, e api.Errno, results ...any) {
		if e != api.OK || blank(results...) {
			t.Errorf("%s of a valid netlist: error %d, %v", what, e, results)
		}
	})
}
