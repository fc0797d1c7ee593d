package graph_test

import (
	"math"
	"math/rand"
	"testing"

	"maskwright/api"
	"maskwright/graph"
)

// odd returns a graph of which anything can be wrong.
func odd(r *rand.Rand) api.Graph {
	lit := func() api.Lit {
		return []api.Lit{math.MinInt, -1, 0, 1, 2, 7, 20, 8833, math.MaxInt}[r.Intn(9)]
	}
	name := func() string { return []string{"", "a", "b", "é", "c d", "e"}[r.Intn(6)] }
	var g api.Graph
	for range r.Intn(3) {
		g.In = append(g.In, name())
		g.Regs = append(g.Regs, api.Reg{Name: name(), Next: lit()})
	}
	for range r.Intn(3) {
		g.Out = append(g.Out, name())
		g.Ands = append(g.Ands, api.Node{A: lit(), B: lit()})
	}
	for range r.Intn(3) {
		g.Outs = append(g.Outs, lit())
	}
	return g
}

// Z1 and Z3
func TestOdd(t *testing.T) {
	r := rand.New(rand.NewSource(1))
	for range 3000 {
		g, h := odd(r), odd(r)
		want := graph.Check(g)
		all(g, func(what string, e api.Errno, results ...any) {
			if e != want || e != api.OK && !blank(results...) {
				t.Errorf("%s of %v: error %d, not %d", what, g, e, want)
			}
		})
		if _, e := graph.Join(g, h); want != api.OK && e != want || want == api.OK && graph.Check(h) != api.OK && e != graph.Check(h) {
			t.Errorf("%v and %v: error %d", g, h, e)
		}
		graph.Cone(g, h.Outs)
		graph.Support(g, h.Outs)
		graph.Prefix(g, "é")
		if graph.First(g) != 1+len(g.In)+len(g.Regs) || graph.Nodes(g) != graph.First(g)+len(g.Ands) || len(graph.Roots(g)) != len(g.Outs)+len(g.Regs) || len(graph.Init(g)) != len(g.Regs) || !graph.Same(g, graph.Copy(g)) {
			t.Errorf("%v: numbers", g)
		}
		m := graph.New(g.In, g.Regs)
		for _, x := range g.Ands {
			m.And(x.A, x.B)
			m.Or(x.A, x.B)
			m.Xor(x.A, x.B)
			m.Mux(x.A, x.B, x.A)
			m.Table(r.Uint64(), g.Outs)
			m.In(int(x.A))
			m.Reg(int(x.B))
		}
		m.Graph(g.Out, g.Outs, h.Outs)
	}
}
