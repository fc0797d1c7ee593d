package graph_test

import (
	"math"
	"math/rand"
	"slices"
	"strings"
	"testing"

	"maskwright/api"
	"maskwright/graph"
)

// P14.2
func TestName(t *testing.T) {
	for c := range 256 {
		want := c >= 33 && c <= 126
		for _, s := range []string{string([]byte{byte(c)}), "a" + string([]byte{byte(c)}), string([]byte{byte(c)}) + "a"} {
			if graph.Name(s) != want {
				t.Errorf("%q", s)
			}
		}
	}
	for n := range 300 {
		if graph.Name(strings.Repeat("a", n)) != (n >= 1 && n <= 128) {
			t.Errorf("%d bytes", n)
		}
	}
	if graph.Name("aéb") || graph.Name("é") || !graph.Name(`a.b[3]"\`) {
		t.Error("bytes")
	}
}

// P14.2
func TestNames(t *testing.T) {
	long := strings.Repeat("n", 129)
	for _, x := range []struct {
		l []string
		e api.Errno
	}{
		{nil, api.OK},
		{[]string{}, api.OK},
		{[]string{"a"}, api.OK},
		{[]string{"a", "A", "aa", long[:128]}, api.OK},
		{names("n", 5000), api.OK},
		{append(names("n", 5000), "n0"), api.ErrTwice},
		{append(names("n", 5000), "n4999"), api.ErrTwice},
		{[]string{""}, api.ErrName},
		{[]string{long}, api.ErrName},
		{[]string{"a", "b c"}, api.ErrName},
		{[]string{"a", "a"}, api.ErrTwice},
		{[]string{"a", "b", "a"}, api.ErrTwice},
		{[]string{"", ""}, api.ErrName},
		{[]string{"a", "a", ""}, api.ErrTwice},
		{[]string{"a", "", "a"}, api.ErrName},
		{[]string{"a", "b", "b", "\n"}, api.ErrTwice},
		{[]string{"a", "b", "\n", "b"}, api.ErrName},
	} {
		if e := graph.Names(x.l); e != x.e {
			t.Errorf("%q: error %d, not %d", x.l[:min(9, len(x.l))], e, x.e)
		}
	}
}

// fault is something that is wrong with a graph: its place in the order of P14.3, the change, and the error.
type fault struct {
	place int
	do    func(g *api.Graph)
	e     api.Errno
}

// faults returns faults for base, in order; two of different places can be made together.
func faults() []fault {
	return slices.Concat(sizeFaults(), nameFaults(), rangeFaults())
}

func sizeFaults() []fault {
	return []fault{
		{1, func(g *api.Graph) { g.In = names("i", 129) }, api.ErrLarge},
		{1, func(g *api.Graph) { g.Out, g.Outs = names("o", 129), make([]api.Lit, 129) }, api.ErrLarge},
		{1, func(g *api.Graph) { g.Regs = regs("r", 289) }, api.ErrLarge},
		{1, func(g *api.Graph) { g.Ands = make([]api.Node, 4001) }, api.ErrLarge},
		{2, func(g *api.Graph) { g.Outs = append(g.Outs, 2) }, api.ErrForm},
		{2, func(g *api.Graph) { g.Outs = g.Outs[1:] }, api.ErrForm},
		{2, func(g *api.Graph) { g.Outs = make([]api.Lit, 129) }, api.ErrForm},
	}
}

func nameFaults() []fault {
	return []fault{
		{3, func(g *api.Graph) { g.In[1] = "" }, api.ErrName},
		{3, func(g *api.Graph) { g.In[1] = "a b" }, api.ErrName},
		{3, func(g *api.Graph) { g.In[1] = g.In[0] }, api.ErrTwice},
		{3, func(g *api.Graph) { g.In[1], g.Regs[0].Name = g.In[0], "" }, api.ErrTwice},
		{3, func(g *api.Graph) { g.In[1], g.Regs[0].Name = "", g.In[0] }, api.ErrName},
		{3, func(g *api.Graph) { g.Regs[0].Name = g.In[0] }, api.ErrTwice},
		{3, func(g *api.Graph) { g.Regs[1].Name = g.Regs[0].Name }, api.ErrTwice},
		{3, func(g *api.Graph) { g.Regs[0].Name = "é" }, api.ErrName},
		{3, func(g *api.Graph) { g.Regs[1].Name = strings.Repeat("r", 129) }, api.ErrName},
		{3, func(g *api.Graph) { g.Regs[0].Name, g.Regs[1].Name = g.In[1], " " }, api.ErrTwice},
		{4, func(g *api.Graph) { g.Out[0] = "" }, api.ErrName},
		{4, func(g *api.Graph) { g.Out[1] = "\x7f" }, api.ErrName},
		{4, func(g *api.Graph) { g.Out[1] = g.Out[0] }, api.ErrTwice},
		{4, func(g *api.Graph) { g.Out[0], g.Out[1] = "\t", "\t" }, api.ErrName},
	}
}

func rangeFaults() []fault {
	return []fault{
		{5, func(g *api.Graph) { g.Ands[0].A = -1 }, api.ErrRange},
		{5, func(g *api.Graph) { g.Ands[0].B = -2 }, api.ErrRange},
		{5, func(g *api.Graph) { g.Ands[0].A = 9999 }, api.ErrRange},
		{5, func(g *api.Graph) { g.Ands[1].B = math.MaxInt }, api.ErrRange},
		{5, func(g *api.Graph) { g.Ands[1].A = math.MinInt }, api.ErrRange},
		{5, func(g *api.Graph) { g.Regs[0].Next = -1 }, api.ErrRange},
		{5, func(g *api.Graph) { g.Regs[1].Next = 99999 }, api.ErrRange},
		{5, func(g *api.Graph) { g.Outs[0] = math.MinInt }, api.ErrRange},
	}
}

// P14.3
func TestCheckFaults(t *testing.T) {
	all := faults()
	for i, f := range all {
		g := base()
		f.do(&g)
		if e := graph.Check(g); e != f.e {
			t.Errorf("fault %d: error %d, not %d", i, e, f.e)
		}
		for k, later := range all[i+1:] {
			if later.place == f.place {
				continue
			}
			g := base() // the earlier one is made last, so that the later one finds what it needs
			later.do(&g)
			f.do(&g)
			if e := graph.Check(g); e != f.e {
				t.Errorf("fault %d and %d: error %d, not %d", i, i+1+k, e, f.e)
			}
		}
	}
}

// P14.3
func TestCheckLimits(t *testing.T) {
	g := api.Graph{In: names("i", 128), Out: names("i", 128), Regs: regs("r", 288), Ands: make([]api.Node, 4000), Outs: make([]api.Lit, 128)}
	for i := range g.Ands {
		g.Ands[i] = api.Node{A: api.Lit(2*(417+i) - 1), B: api.Lit(2*(417+i) - 2)}
	}
	g.Outs[127], g.Regs[287].Next = 2*graph.MaxNode+1, 2*graph.MaxNode
	for _, x := range []api.Graph{{}, g, base(), {Outs: []api.Lit{}}, {Out: []string{"o"}, Outs: []api.Lit{1}}, {Regs: []api.Reg{{Name: "r", Next: 3}}}} {
		if e := graph.Check(x); e != api.OK {
			t.Errorf("%d inputs: error %d", len(x.In), e)
		}
	}
	for _, f := range []func(g *api.Graph){
		func(g *api.Graph) { g.Outs[127]++ },
		func(g *api.Graph) { g.Regs[287].Next += 2 },
		func(g *api.Graph) { g.Ands[3999].A++ },
		func(g *api.Graph) { g.Ands[3999].B += 2 },
	} {
		x := graph.Copy(g)
		f(&x)
		if e := graph.Check(x); e != api.ErrRange {
			t.Errorf("error %d", e)
		}
	}
}

// outside gives a literal all values near what is permitted below a number of nodes, and far from it, and checks each one.
func outside(t *testing.T, what string, g api.Graph, l *api.Lit, nodes int) {
	t.Helper()
	old := *l
	for _, x := range []api.Lit{math.MinInt, -4, -3, -2, -1, 0, 1, 2, api.Lit(2*nodes - 2), api.Lit(2*nodes - 1), api.Lit(2 * nodes), api.Lit(2*nodes + 1), api.Lit(2*nodes + 2), 1 << 40, math.MaxInt - 1, math.MaxInt} {
		want := api.OK
		if x < 0 || x >= api.Lit(2*nodes) {
			want = api.ErrRange
		}
		*l = x
		if e := graph.Check(g); e != want {
			t.Errorf("%s %d with %d nodes: error %d, not %d", what, x, nodes, e, want)
		}
	}
	*l = old
}

// P14.3
func TestCheckLiterals(t *testing.T) {
	r := rand.New(rand.NewSource(14))
	for range 100 {
		g := grown(r, "")
		if e := graph.Check(g); e != api.OK {
			t.Fatalf("%v: error %d", g, e)
		}
		first := 1 + len(g.In) + len(g.Regs)
		for i := range g.Ands {
			outside(t, "literal a", g, &g.Ands[i].A, first+i)
			outside(t, "literal b", g, &g.Ands[i].B, first+i)
		}
		for i := range g.Regs {
			outside(t, "register", g, &g.Regs[i].Next, first+len(g.Ands))
		}
		for i := range g.Outs {
			outside(t, "output", g, &g.Outs[i], first+len(g.Ands))
		}
	}
}
