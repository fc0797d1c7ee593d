package graph_test

import (
	"math"
	"slices"
	"testing"

	"maskwright/api"
	"maskwright/graph"
)

// P14.1
func TestMake(t *testing.T) {
	if graph.Off != 0 || graph.On != 1 || graph.MaxNode != 128+288+4000 {
		t.Errorf("constants %d, %d, %d", graph.Off, graph.On, graph.MaxNode)
	}
	for _, x := range []struct {
		node int
		l    api.Lit
		ok   bool
	}{
		{0, 0, true}, {1, 2, true}, {2, 4, true}, {3, 6, true}, {1000, 2000, true}, {4415, 8830, true}, {4416, 8832, true},
		{4417, 0, false}, {4418, 0, false}, {-1, 0, false}, {-2, 0, false}, {math.MaxInt, 0, false}, {math.MinInt, 0, false}, {1 << 62, 0, false}, {1<<62 + 1, 0, false},
	} {
		inverted := api.Lit(0)
		if x.ok {
			inverted = x.l + 1
		}
		if l := graph.Make(x.node, false); l != x.l {
			t.Errorf("node %d: %d, not %d", x.node, l, x.l)
		}
		if l := graph.Make(x.node, true); l != inverted {
			t.Errorf("node %d, inverted: %d, not %d", x.node, l, inverted)
		}
	}
}

// P14.1
func TestParts(t *testing.T) {
	for _, x := range []struct {
		l        api.Lit
		node     int
		inverted bool
		not      api.Lit
	}{
		{0, 0, false, 1}, {1, 0, true, 0}, {2, 1, false, 3}, {3, 1, true, 2}, {4, 2, false, 5}, {8832, 4416, false, 8833}, {8833, 4416, true, 8832}, {9000, 4500, false, 9001},
		{math.MaxInt, math.MaxInt / 2, true, math.MaxInt - 1}, {math.MaxInt - 1, math.MaxInt / 2, false, math.MaxInt},
		{-1, -1, false, -1}, {-2, -1, false, -2}, {-3, -1, false, -3}, {-4, -1, false, -4}, {math.MinInt, -1, false, math.MinInt}, {math.MinInt + 1, -1, false, math.MinInt + 1},
	} {
		if n, inverted, not := graph.Node(x.l), graph.Inverted(x.l), graph.Not(x.l); n != x.node || inverted != x.inverted || not != x.not {
			t.Errorf("%d: node %d, inverted %v, not %d", x.l, n, inverted, not)
		}
	}
	for node := range graph.MaxNode + 1 {
		for _, inverted := range []bool{false, true} {
			l := graph.Make(node, inverted)
			if graph.Node(l) != node || graph.Inverted(l) != inverted || graph.Not(l) != graph.Make(node, !inverted) {
				t.Errorf("node %d, inverted %v: %d", node, inverted, l)
			}
		}
	}
}

// P14.1
func TestNumbers(t *testing.T) {
	for _, x := range []struct {
		g            api.Graph
		first, nodes int
		roots        []api.Lit
	}{
		{api.Graph{}, 1, 1, nil},
		{base(), 5, 8, []api.Lit{14, 3, 12, 15}},
		{api.Graph{In: make([]string, 3)}, 4, 4, nil},
		{api.Graph{Regs: []api.Reg{{Next: 8}, {Next: -1}}}, 3, 3, []api.Lit{8, -1}},
		{api.Graph{Out: make([]string, 3), Outs: []api.Lit{9, -5}}, 1, 1, []api.Lit{9, -5}},
		{api.Graph{In: make([]string, 500), Regs: make([]api.Reg, 600), Ands: make([]api.Node, 7000)}, 1101, 8101, make([]api.Lit, 600)},
	} {
		if first, nodes, roots := graph.First(x.g), graph.Nodes(x.g), graph.Roots(x.g); first != x.first || nodes != x.nodes || !slices.Equal(roots, x.roots) {
			t.Errorf("first %d, not %d; %d nodes, not %d; roots %v, not %v", first, x.first, nodes, x.nodes, roots, x.roots)
		}
	}
}
