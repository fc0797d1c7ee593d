package graph_test

import (
	"math/rand"
	"slices"
	"testing"

	"maskwright/api"
	"maskwright/graph"
)

// sameFunction checks that two graphs with the same inputs and registers have the same outputs, and take the same.
func sameFunction(t *testing.T, r *rand.Rand, what string, g, h api.Graph) {
	t.Helper()
	in, state := words(r, len(g.In)), words(r, len(g.Regs))
	out, next, _ := graph.Words(g, in, state)
	o, n, e := graph.Words(h, in, state)
	if e != api.OK || !slices.Equal(out, o) || !slices.Equal(next, n) {
		t.Errorf("%s: another function, error %d: %v, %v", what, e, g, h)
	}
}

// after returns what a literal becomes if the nodes become literals; it uses nothing of the program.
func after(became []api.Lit, l api.Lit) api.Lit {
	to := became[l/2]
	if l%2 == 0 {
		return to
	}
	if to%2 == 0 {
		return to + 1
	}
	return to - 1
}

// withRoots returns a graph with other ands, and with its roots after a change.
func withRoots(g api.Graph, ands []api.Node, became []api.Lit) api.Graph {
	h := api.Graph{In: g.In, Out: g.Out, Ands: ands}
	for _, r := range g.Regs {
		r.Next = after(became, r.Next)
		h.Regs = append(h.Regs, r)
	}
	for _, l := range g.Outs {
		h.Outs = append(h.Outs, after(became, l))
	}
	return h
}

// P14.8
func TestClean(t *testing.T) {
	for _, x := range []struct {
		what    string
		change  func(g *api.Graph)
		ands    []api.Node
		outs    []api.Lit
		next    []api.Lit
		numbers []int
	}{
		{"all", func(g *api.Graph) {}, []api.Node{{A: 2, B: 4}, {A: 11, B: 6}, {A: 13, B: 9}}, []api.Lit{14, 3}, []api.Lit{12, 15}, []int{0, 1, 2, 3, 4, 5, 6, 7}},
		{"without the last", func(g *api.Graph) { g.Outs[0], g.Regs[1].Next = 1, 9 }, []api.Node{{A: 2, B: 4}, {A: 11, B: 6}}, []api.Lit{1, 3}, []api.Lit{12, 9}, []int{0, 1, 2, 3, 4, 5, 6, -1}},
		{"without the first", func(g *api.Graph) { g.Ands[1].A = 6 }, []api.Node{{A: 6, B: 6}, {A: 11, B: 9}}, []api.Lit{12, 3}, []api.Lit{10, 13}, []int{0, 1, 2, 3, 4, -1, 5, 6}},
		{"without the one between", func(g *api.Graph) { g.Ands[2].A, g.Regs[0].Next = 11, 11 }, []api.Node{{A: 2, B: 4}, {A: 11, B: 9}}, []api.Lit{12, 3}, []api.Lit{11, 13}, []int{0, 1, 2, 3, 4, 5, -1, 6}},
		{"nothing but inputs", func(g *api.Graph) { g.Outs, g.Out, g.Regs = nil, nil, nil; g.Ands = g.Ands[:1] }, nil, nil, nil, []int{0, 1, 2, -1}},
		{"trivial ones", func(g *api.Graph) { g.Ands[0], g.Ands[1] = api.Node{A: 0, B: 1}, api.Node{A: 10, B: 11} }, []api.Node{{A: 0, B: 1}, {A: 10, B: 11}, {A: 13, B: 9}}, []api.Lit{14, 3}, []api.Lit{12, 15}, []int{0, 1, 2, 3, 4, 5, 6, 7}},
	} {
		g := base()
		x.change(&g)
		want := graph.Copy(g)
		want.Ands, want.Outs = x.ands, x.outs
		for i, l := range x.next {
			want.Regs[i].Next = l
		}
		if h, numbers, e := graph.Clean(g); e != api.OK || !sameMembers(h, want) || !slices.Equal(numbers, x.numbers) {
			t.Errorf("%s: %v, %v, error %d", x.what, h, numbers, e)
		}
	}
}

// P14.8
func TestCleanOfRandomGraphs(t *testing.T) {
	r := rand.New(rand.NewSource(148))
	less := 0
	for range 300 {
		g := grown(r, "")
		first := 1 + len(g.In) + len(g.Regs)
		found := reached(g, rootsOf(g))
		numbers := map[int]int{}
		var order []int // the ands that stay
		for n := range first + len(g.Ands) {
			switch {
			case n < first:
				numbers[n] = n
			case found[n]:
				numbers[n] = first + len(order)
				order = append(order, n)
			default:
				numbers[n] = -1
				less++
			}
		}
		var became []api.Lit
		for n := range first + len(g.Ands) {
			became = append(became, api.Lit(2*max(numbers[n], 0)))
		}
		var ands []api.Node
		for _, n := range order {
			x := g.Ands[n-first]
			ands = append(ands, api.Node{A: after(became, x.A), B: after(became, x.B)})
		}
		h, l, e := graph.Clean(g)
		if e != api.OK || !sameMembers(h, withRoots(g, ands, became)) || len(l) != first+len(g.Ands) {
			t.Fatalf("%v: %v, %v, error %d", g, h, l, e)
		}
		for i, n := range l {
			if n != numbers[i] {
				t.Errorf("%v: node %d is %d, not %d", g, i, n, numbers[i])
			}
		}
		sameFunction(t, r, "Clean", g, h)
	}
	if less < 100 {
		t.Errorf("only %d ands are left out", less)
	}
}

// P14.9
func TestStrashRules(t *testing.T) {
	// inputs 2 and 4, registers 6 and 8; the first and is 10, with what the rule makes of the second one
	for _, x := range []struct {
		first, second api.Node
		became        api.Lit
	}{
		{api.Node{A: 2, B: 4}, api.Node{A: 0, B: 10}, 0},
		{api.Node{A: 2, B: 4}, api.Node{A: 11, B: 0}, 0},
		{api.Node{A: 2, B: 4}, api.Node{A: 0, B: 0}, 0},
		{api.Node{A: 2, B: 4}, api.Node{A: 0, B: 1}, 0},
		{api.Node{A: 2, B: 4}, api.Node{A: 1, B: 0}, 0},
		{api.Node{A: 2, B: 4}, api.Node{A: 1, B: 1}, 1},
		{api.Node{A: 2, B: 4}, api.Node{A: 1, B: 10}, 10},
		{api.Node{A: 2, B: 4}, api.Node{A: 11, B: 1}, 11},
		{api.Node{A: 2, B: 4}, api.Node{A: 1, B: 3}, 3},
		{api.Node{A: 2, B: 4}, api.Node{A: 10, B: 10}, 10},
		{api.Node{A: 2, B: 4}, api.Node{A: 11, B: 11}, 11},
		{api.Node{A: 2, B: 4}, api.Node{A: 10, B: 11}, 0},
		{api.Node{A: 2, B: 4}, api.Node{A: 11, B: 10}, 0},
		{api.Node{A: 2, B: 4}, api.Node{A: 3, B: 2}, 0},
		{api.Node{A: 2, B: 4}, api.Node{A: 2, B: 4}, 10},
		{api.Node{A: 2, B: 4}, api.Node{A: 4, B: 2}, 10},
		{api.Node{A: 4, B: 2}, api.Node{A: 2, B: 4}, 10},
		{api.Node{A: 2, B: 4}, api.Node{A: 2, B: 5}, 12},
		{api.Node{A: 2, B: 4}, api.Node{A: 3, B: 4}, 12},
		{api.Node{A: 2, B: 4}, api.Node{A: 2, B: 10}, 12},
		{api.Node{A: 0, B: 4}, api.Node{A: 10, B: 8}, 0},
		{api.Node{A: 0, B: 4}, api.Node{A: 8, B: 11}, 8},
		{api.Node{A: 1, B: 4}, api.Node{A: 11, B: 4}, 0},
		{api.Node{A: 1, B: 5}, api.Node{A: 5, B: 10}, 5},
		{api.Node{A: 1, B: 5}, api.Node{A: 11, B: 8}, 10},
	} {
		g := base()
		g.Ands = []api.Node{x.first, x.second}
		g.Outs[0], g.Outs[1], g.Regs[0].Next, g.Regs[1].Next = 12, 13, 12, 13
		h, became, e := graph.Strash(g)
		not := after([]api.Lit{x.became}, 1)
		if e != api.OK || len(became) != 7 || became[6] != x.became || !slices.Equal(h.Outs, []api.Lit{x.became, not}) || h.Regs[0].Next != x.became || h.Regs[1].Next != not {
			t.Errorf("%v, %v: %v, %v, error %d", x.first, x.second, h, became, e)
		}
	}
}

// strashed is what the chapter says of Strash, with a search of a list; it uses nothing of the program.
func strashed(g api.Graph) ([]api.Node, []api.Lit) {
	first := 1 + len(g.In) + len(g.Regs)
	var ands []api.Node
	var became []api.Lit
	for n := range first {
		became = append(became, api.Lit(2*n))
	}
	for _, x := range g.Ands {
		a, b := after(became, x.A), after(became, x.B)
		if b < a {
			a, b = b, a
		}
		at := slices.Index(ands, api.Node{A: a, B: b})
		switch {
		case a == 0, a%2 == 0 && b == a+1:
			became = append(became, 0)
		case a == 1, a == b:
			became = append(became, b)
		case at >= 0:
			became = append(became, api.Lit(2*(first+at)))
		default:
			became = append(became, api.Lit(2*(first+len(ands))))
			ands = append(ands, api.Node{A: a, B: b})
		}
	}
	return ands, became
}

// P14.9
func TestStrashOfRandomGraphs(t *testing.T) {
	r := rand.New(rand.NewSource(149))
	less := 0
	for range 500 {
		g := grown(r, "")
		ands, became := strashed(g)
		h, l, e := graph.Strash(g)
		if e != api.OK || !slices.Equal(l, became) || !sameMembers(h, withRoots(g, ands, became)) {
			t.Fatalf("%v: %v, %v, error %d", g, h, l, e)
		}
		less += len(g.Ands) - len(h.Ands)
		sameFunction(t, r, "Strash", g, h)
		v, _ := graph.Values(g, make([]uint64, len(g.In)), make([]uint64, len(g.Regs)))
		w, _ := graph.Values(h, make([]uint64, len(g.In)), make([]uint64, len(g.Regs)))
		for i, to := range l {
			if want := v[i]; w[to/2] != want && to%2 == 0 || w[to/2] == want && to%2 == 1 {
				t.Errorf("%v: node %d became %d, of another value", g, i, to)
			}
		}
	}
	if less < 500 {
		t.Errorf("only %d ands are left out", less)
	}
}
