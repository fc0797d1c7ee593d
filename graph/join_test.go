package graph_test

import (
	"fmt"
	"math/rand"
	"slices"
	"strings"
	"testing"

	"maskwright/api"
	"maskwright/graph"
)

// lines says what a graph is, with names for its nodes: those of the inputs, and names of registers and ands that are given.
func lines(g api.Graph, regs, ands []string) []string {
	nodes := slices.Concat([]string{"0"}, g.In, regs, ands)
	lit := func(l api.Lit) string { return strings.Repeat("~", int(l)%2) + nodes[l/2] }
	var list []string
	for i, r := range g.Regs {
		list = append(list, fmt.Sprintf("%s %s %v takes %s", regs[i], r.Name, r.Init, lit(r.Next)))
	}
	for i, x := range g.Ands {
		list = append(list, fmt.Sprintf("%s is %s and %s", ands[i], lit(x.A), lit(x.B)))
	}
	for i, l := range g.Outs {
		list = append(list, fmt.Sprintf("output %s is %s", g.Out[i], lit(l)))
	}
	return list
}

// P14.10
func TestJoinOfRandomGraphs(t *testing.T) {
	r := rand.New(rand.NewSource(1410))
	for range 300 {
		a, b := grown(r, "a"), grown(r, "b")
		g, e := graph.Join(a, b)
		if e != api.OK || len(g.Regs) != len(a.Regs)+len(b.Regs) || len(g.Ands) != len(a.Ands)+len(b.Ands) {
			t.Fatalf("%v, %v: %v, error %d", a, b, g, e)
		}
		ra, rb, na, nb := names("x", len(a.Regs)), names("y", len(b.Regs)), names("v", len(a.Ands)), names("w", len(b.Ands))
		l := lines(g, slices.Concat(ra, rb), slices.Concat(na, nb))
		la, lb := lines(a, ra, na), lines(b, rb, nb)
		// both graphs have registers, then ands, then outputs
		var want []string
		for _, part := range [][4]int{{0, len(ra), 0, len(rb)}, {len(ra), len(ra) + len(na), len(rb), len(rb) + len(nb)}, {len(ra) + len(na), len(la), len(rb) + len(nb), len(lb)}} {
			want = append(append(want, la[part[0]:part[1]]...), lb[part[2]:part[3]]...)
		}
		in := slices.Clone(a.In)
		for _, s := range b.In {
			if !slices.Contains(in, s) {
				in = append(in, s)
			}
		}
		if !slices.Equal(l, want) || !slices.Equal(g.In, in) || !slices.Equal(g.Out, slices.Concat(a.Out, b.Out)) {
			t.Fatalf("%v, %v: %v", a, b, g)
		}
		sideBySide(t, r, a, b, g)
	}
}

// sideBySide checks that a graph of two does what both do.
func sideBySide(t *testing.T, r *rand.Rand, a, b, g api.Graph) {
	t.Helper()
	in := trace(r, g, 8)
	pick := func(h api.Graph) [][]bool {
		l := make([][]bool, len(in))
		for c := range in {
			for _, s := range h.In {
				l[c] = append(l[c], in[c][slices.Index(g.In, s)])
			}
		}
		return l
	}
	both, e := graph.Run(g, in)
	x, _ := graph.Run(a, pick(a))
	y, _ := graph.Run(b, pick(b))
	for c := range in {
		if e != api.OK || !slices.Equal(both[c], slices.Concat(x[c], y[c])) {
			t.Errorf("%v, %v: cycle %d, error %d", a, b, c, e)
		}
	}
}

// P14.10
func TestJoin(t *testing.T) {
	a := api.Graph{In: []string{"x", "y"}, Out: []string{"o"}, Regs: []api.Reg{{Name: "r", Next: 9, Init: true}}, Ands: []api.Node{{A: 4, B: 3}}, Outs: []api.Lit{7}}
	b := api.Graph{In: []string{"z", "y", "w", "x"}, Out: []string{"p"}, Regs: []api.Reg{{Name: "s", Next: 2}}, Ands: []api.Node{{A: 9, B: 4}, {A: 12, B: 1}}, Outs: []api.Lit{15}}
	// x 1, y 2, z 3, w 4, r 5, s 6, and 7 of a, ands 8 and 9 of b
	want := api.Graph{In: []string{"x", "y", "z", "w"}, Out: []string{"o", "p"}, Regs: []api.Reg{{Name: "r", Next: 15, Init: true}, {Name: "s", Next: 6}}, Ands: []api.Node{{A: 4, B: 3}, {A: 3, B: 4}, {A: 16, B: 1}}, Outs: []api.Lit{11, 19}}
	if g, e := graph.Join(a, b); e != api.OK || !sameMembers(g, want) {
		t.Errorf("%v, error %d", g, e)
	}
	for _, x := range [][2]api.Graph{{a, {}}, {{}, a}} {
		if g, e := graph.Join(x[0], x[1]); e != api.OK || !sameMembers(g, a) {
			t.Errorf("%v, error %d", g, e)
		}
	}
	if g, e := graph.Join(api.Graph{}, api.Graph{}); e != api.OK || !sameMembers(g, api.Graph{}) {
		t.Errorf("%v, error %d", g, e)
	}
}

// graphOf returns a graph with inputs, outputs and registers of these names.
func graphOf(in, out, reg string) api.Graph {
	g := api.Graph{In: strings.Fields(in), Out: strings.Fields(out)}
	for _, s := range strings.Fields(reg) {
		g.Regs = append(g.Regs, api.Reg{Name: s})
	}
	g.Outs = make([]api.Lit, len(g.Out))
	return g
}

// P14.10
func TestJoinErrors(t *testing.T) {
	loose, twice := graphOf("i", "o", ""), graphOf("i i", "o", "")
	loose.Outs[0] = 99
	for i, x := range []struct {
		a, b api.Graph
		e    api.Errno
	}{
		{loose, twice, api.ErrRange}, {twice, loose, api.ErrTwice}, {loose, api.Graph{}, api.ErrRange}, {api.Graph{}, loose, api.ErrRange},
		{graphOf("i", "o", "r"), twice, api.ErrTwice}, {graphOf("i", "o", "r"), loose, api.ErrRange}, {loose, graphOf("i", "o", "r"), api.ErrRange},
		{graphOf("i", "o", "r"), graphOf("i", "p", "s"), api.OK},
		{graphOf("i", "o", "r"), graphOf("i", "o", "s"), api.ErrTwice},
		{graphOf("i", "o", "r"), graphOf("i", "p", "r"), api.ErrTwice},
		{graphOf("i", "o", "r"), graphOf("r", "p", "s"), api.ErrTwice},
		{graphOf("i", "o", "r"), graphOf("j", "p", "i"), api.ErrTwice},
		{graphOf("i", "r", "r"), graphOf("i", "i", "s"), api.OK},
		{api.Graph{In: names("a", 64)}, api.Graph{In: names("b", 64)}, api.OK},
		{api.Graph{In: names("a", 64)}, api.Graph{In: names("b", 65)}, api.ErrLarge},
		{api.Graph{In: names("a", 100)}, api.Graph{In: names("a", 128)}, api.OK},
		{api.Graph{Out: names("a", 128), Outs: make([]api.Lit, 128)}, graphOf("", "o", ""), api.ErrLarge},
		{api.Graph{Out: names("a", 128), Outs: make([]api.Lit, 128)}, graphOf("", "a0", ""), api.ErrLarge},
		{api.Graph{Out: names("a", 127), Outs: make([]api.Lit, 127)}, graphOf("", "o", ""), api.OK},
		{api.Graph{Regs: regs("a", 288)}, graphOf("", "", "r"), api.ErrLarge},
		{api.Graph{Regs: regs("a", 287)}, graphOf("", "", "r"), api.OK},
		{api.Graph{Ands: make([]api.Node, 2001)}, api.Graph{Ands: make([]api.Node, 2000)}, api.ErrLarge},
		{api.Graph{Ands: make([]api.Node, 2000)}, api.Graph{Ands: make([]api.Node, 2000)}, api.OK},
		{api.Graph{In: names("a", 128), Regs: regs("r", 288), Ands: make([]api.Node, 4000)}, api.Graph{In: names("b", 128), Regs: regs("s", 288), Ands: make([]api.Node, 4000)}, api.ErrLarge},
	} {
		if g, e := graph.Join(x.a, x.b); e != x.e || e != api.OK && !blank(g) {
			t.Errorf("%d: error %d, not %d", i, e, x.e)
		}
	}
}

// P14.10
func TestPrefix(t *testing.T) {
	want := base()
	want.Out = []string{"u.o", "u.p"}
	want.Regs[0].Name, want.Regs[1].Name = "u.r", "u.s"
	if g, e := graph.Prefix(base(), "u."); e != api.OK || !sameMembers(g, want) {
		t.Errorf("%v, error %d", g, e)
	}
	if g, e := graph.Prefix(base(), ""); e != api.OK || !sameMembers(g, base()) {
		t.Errorf("%v, error %d", g, e)
	}
	bad := base()
	bad.Outs[0] = 99
	long := strings.Repeat("p", 200)
	for i, x := range []struct {
		g api.Graph
		s string
		e api.Errno
	}{
		{base(), long[:127], api.OK}, {base(), long[:128], api.ErrName}, {base(), long[:129], api.ErrName}, {base(), long, api.ErrName},
		{graphOf("a b", "", ""), long[:128], api.OK}, {graphOf("a b", "", ""), long[:129], api.ErrName}, {api.Graph{}, long[:128], api.OK}, {api.Graph{}, long[:129], api.ErrName},
		{graphOf("", "", long[:100]), long[:28], api.OK}, {graphOf("", "", long[:100]), long[:29], api.ErrName}, {graphOf("", long[:100], ""), long[:28], api.OK}, {graphOf("", long[:100], ""), long[:29], api.ErrName},
		{base(), " ", api.ErrName}, {base(), "é", api.ErrName}, {graphOf("a", "", ""), " ", api.OK}, {graphOf("", "o", ""), "\n", api.ErrName}, {graphOf("", "", "r"), "\n", api.ErrName},
		{graphOf("ur", "", "r"), "u", api.ErrTwice}, {graphOf("r", "r", "x"), "r", api.OK}, {graphOf("rr", "r", "r"), "r", api.ErrTwice},
		{bad, "u.", api.ErrRange}, {bad, long, api.ErrRange}, {bad, " ", api.ErrRange},
	} {
		if g, e := graph.Prefix(x.g, x.s); e != x.e || e != api.OK && !blank(g) {
			t.Errorf("%d: %v, error %d, not %d", i, g, e, x.e)
		}
	}
}
