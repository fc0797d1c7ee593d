package graph_test

import (
	"math/rand"
	"reflect"
	"slices"
	"testing"

	"maskwright/api"
	"maskwright/graph"
)

// changes returns changes of base, each of which makes another graph.
func changes() []func(g *api.Graph) {
	return []func(g *api.Graph){
		func(g *api.Graph) { g.In[0] = "c" },
		func(g *api.Graph) { g.In[0], g.In[1] = g.In[1], g.In[0] },
		func(g *api.Graph) { g.In = g.In[:1] },
		func(g *api.Graph) { g.In = append(g.In, "") },
		func(g *api.Graph) { g.Out[1] = "" },
		func(g *api.Graph) { g.Out = g.Out[:1] },
		func(g *api.Graph) { g.Out = nil },
		func(g *api.Graph) { g.Regs[1].Name = "a" },
		func(g *api.Graph) { g.Regs[1].Next = -1 },
		func(g *api.Graph) { g.Regs[1].Init = true },
		func(g *api.Graph) { g.Regs = g.Regs[:1] },
		func(g *api.Graph) { g.Regs = append(g.Regs, api.Reg{}) },
		func(g *api.Graph) { g.Ands[0].A++ },
		func(g *api.Graph) { g.Ands[2].B = 99 },
		func(g *api.Graph) { g.Ands[0].A, g.Ands[0].B = g.Ands[0].B, g.Ands[0].A },
		func(g *api.Graph) { g.Ands = g.Ands[:2] },
		func(g *api.Graph) { g.Ands = append(g.Ands, api.Node{}) },
		func(g *api.Graph) { g.Outs[1]++ },
		func(g *api.Graph) { g.Outs = g.Outs[:1] },
		func(g *api.Graph) { g.Outs = append(g.Outs, 0) },
	}
}

// Same
func TestSame(t *testing.T) {
	if !graph.Same(base(), base()) || !graph.Same(api.Graph{}, api.Graph{In: []string{}, Out: []string{}, Regs: []api.Reg{}, Ands: []api.Node{}, Outs: []api.Lit{}}) {
		t.Error("equal graphs are not the same")
	}
	for i, f := range changes() {
		g, h := base(), base()
		f(&g)
		f(&h)
		if graph.Same(g, base()) || graph.Same(base(), g) || !graph.Same(g, h) {
			t.Errorf("change %d", i)
		}
	}
}

// Copy
func TestCopy(t *testing.T) {
	for i, f := range changes() {
		g := base()
		f(&g)
		if c := graph.Copy(g); !sameMembers(c, g) {
			t.Errorf("change %d: %v, not %v", i, c, g)
		}
	}
	r := rand.New(rand.NewSource(14))
	for range 50 {
		g := grown(r, "")
		if c := graph.Copy(g); !sameMembers(c, g) {
			t.Errorf("%v, not %v", c, g)
		}
	}
}

// stretch is the memory of a slice, its spare capacity too.
type stretch struct{ from, to uintptr }

// memory returns the stretches of all slices in values.
func memory(values ...any) []stretch {
	var l []stretch
	var visit func(v reflect.Value)
	visit = func(v reflect.Value) {
		switch v.Kind() {
		case reflect.Struct:
			for i := range v.NumField() {
				visit(v.Field(i))
			}
		case reflect.Slice:
			size := uintptr(v.Cap()) * v.Type().Elem().Size()
			if size > 0 {
				l = append(l, stretch{v.Pointer(), v.Pointer() + size})
			}
			for i := range v.Len() {
				visit(v.Index(i))
			}
		}
	}
	for _, x := range values {
		visit(reflect.ValueOf(x))
	}
	return l
}

// apart checks that the slices of results share no memory with each other and with other values.
func apart(t *testing.T, what string, others []stretch, results ...any) {
	t.Helper()
	mine := memory(results...)
	for i, a := range mine {
		for _, b := range slices.Concat(others, mine[i+1:]) {
			if a.from < b.to && b.from < a.to {
				t.Errorf("%s: shared memory", what)
			}
		}
	}
}

// spare returns a list with capacity behind it, which has the value x.
func spare[T any](l []T, x T) []T {
	return append(slices.Clone(l), x, x, x)[:len(l)]
}

// roomy returns a graph in memory with capacity behind all lists.
func roomy(g api.Graph) api.Graph {
	return api.Graph{In: spare(g.In, "?"), Out: spare(g.Out, "?"), Regs: spare(g.Regs, api.Reg{Name: "?", Next: 77}), Ands: spare(g.Ands, api.Node{A: 77, B: 78}), Outs: spare(g.Outs, 77)}
}

// whole returns a graph with all that is behind its lists.
func whole(g api.Graph) api.Graph {
	return api.Graph{In: g.In[:cap(g.In)], Out: g.Out[:cap(g.Out)], Regs: g.Regs[:cap(g.Regs)], Ands: g.Ands[:cap(g.Ands)], Outs: g.Outs[:cap(g.Outs)]}
}

// Z2: arguments stay as they are, and results are in memory of their own.
func TestMemory(t *testing.T) {
	r := rand.New(rand.NewSource(2))
	for range 100 {
		g := roomy(grown(r, ""))
		before := graph.Copy(whole(g))
		given := memory(g)
		check := func(what string, e api.Errno, results ...any) {
			if !sameMembers(whole(g), before) {
				t.Fatalf("%s changes its graph", what)
			}
			apart(t, what, given, results...)
		}
		all(g, check)
		check("Roots", api.OK, graph.Roots(g))
		check("Copy", api.OK, graph.Copy(g))
		check("Init", api.OK, graph.Init(g))
		check("Same", api.OK, graph.Same(g, g))
		check("Check", graph.Check(g))
		if e := graph.Names(g.In); e != api.OK {
			t.Errorf("error %d", e)
		}
		check("Names", api.OK)
	}
}

// Z2, for arguments beside a graph
func TestMemoryOfLists(t *testing.T) {
	g := base()
	in, state := spare([]uint64{5, 6}, 7), spare([]uint64{8, 9}, 7)
	given := memory(in, state)
	v, _ := graph.Values(g, in, state)
	apart(t, "Values", given, v)
	out, next, _ := graph.Words(g, in, state)
	apart(t, "Words", given, out, next)
	apart(t, "Lane", given, graph.Lane(in))
	if !slices.Equal(in[:5], []uint64{5, 6, 7, 7, 7}) || !slices.Equal(state[:5], []uint64{8, 9, 7, 7, 7}) {
		t.Error(in[:5], state[:5])
	}
	bits := spare([]bool{true, false}, true)
	trace := spare([][]bool{bits, bits}, nil)
	o, n, _ := graph.Eval(g, bits, bits)
	outs, _ := graph.Run(g, trace)
	apart(t, "Eval", memory(bits), o, n)
	apart(t, "Run", memory(bits, trace), outs)
	apart(t, "Lanes", memory(bits), graph.Lanes(bits))
	if !slices.Equal(bits[:5], []bool{true, false, true, true, true}) || !slices.Equal(trace[0], bits) || trace[2:3][0] != nil {
		t.Error(bits, trace)
	}
	roots := spare([]api.Lit{14, 8}, 9)
	cone, _ := graph.Cone(g, roots)
	support, _ := graph.Support(g, roots)
	apart(t, "Cone", memory(roots), cone, support)
	if !slices.Equal(roots[:5], []api.Lit{14, 8, 9, 9, 9}) {
		t.Error(roots[:5])
	}
}
