package netlist_test

import (
	"math/rand"
	"reflect"
	"slices"
	"testing"

	"maskwright/api"
	"maskwright/netlist"
)

// changes returns changes of base, each of which makes another netlist.
func changes() []func(n *api.Netlist) {
	return []func(n *api.Netlist){
		func(n *api.Netlist) { n.In[0] = "c" },
		func(n *api.Netlist) { n.In[0], n.In[1] = n.In[1], n.In[0] },
		func(n *api.Netlist) { n.In = n.In[:1] },
		func(n *api.Netlist) { n.In = append(n.In, "") },
		func(n *api.Netlist) { n.Out[1] = "" },
		func(n *api.Netlist) { n.Out = n.Out[:1] },
		func(n *api.Netlist) { n.Out = nil },
		func(n *api.Netlist) { n.Flops[1].Name = "a" },
		func(n *api.Netlist) { n.Flops[1].Cell = 0 },
		func(n *api.Netlist) { n.Flops[1].D = -1 },
		func(n *api.Netlist) { n.Flops[0].En = 0 },
		func(n *api.Netlist) { n.Flops[1].Init = true },
		func(n *api.Netlist) { n.Flops = n.Flops[:1] },
		func(n *api.Netlist) { n.Flops = append(n.Flops, api.Flop{}) },
		func(n *api.Netlist) { n.Gates[0].Cell = 0 },
		func(n *api.Netlist) { n.Gates[3].Cell = 1 },
		func(n *api.Netlist) { n.Gates[2].Table++ },
		func(n *api.Netlist) { n.Gates[3].Table = 0 },
		func(n *api.Netlist) { n.Gates[0].Ins[0], n.Gates[0].Ins[1] = n.Gates[0].Ins[1], n.Gates[0].Ins[0] },
		func(n *api.Netlist) { n.Gates[1].Ins[0] = 99 },
		func(n *api.Netlist) { n.Gates[1].Ins = nil },
		func(n *api.Netlist) { n.Gates[2].Ins = n.Gates[2].Ins[:2] },
		func(n *api.Netlist) { n.Gates[3].Ins = []int{0} },
		func(n *api.Netlist) { n.Gates = n.Gates[:3] },
		func(n *api.Netlist) { n.Gates = append(n.Gates, api.Gate{}) },
		func(n *api.Netlist) { n.Outs[1]++ },
		func(n *api.Netlist) { n.Outs = n.Outs[:1] },
		func(n *api.Netlist) { n.Outs = append(n.Outs, 0) },
	}
}

// Same
func TestSame(t *testing.T) {
	if !netlist.Same(base(), base()) || !netlist.Same(api.Netlist{}, api.Netlist{In: []string{}, Out: []string{}, Flops: []api.Flop{}, Gates: []api.Gate{}, Outs: []int{}}) {
		t.Error("equal netlists are not the same")
	}
	empty := base()
	empty.Gates[3].Ins = []int{}
	if !netlist.Same(base(), empty) || !netlist.Same(empty, base()) {
		t.Error("a gate without inputs is another one")
	}
	for i, f := range changes() {
		n, m := base(), base()
		f(&n)
		f(&m)
		if netlist.Same(n, base()) || netlist.Same(base(), n) || !netlist.Same(n, m) {
			t.Errorf("change %d", i)
		}
	}
}

// Copy
func TestCopy(t *testing.T) {
	for i, f := range changes() {
		n := base()
		f(&n)
		if c := netlist.Copy(n); !sameMembers(c, n) {
			t.Errorf("change %d: %v, not %v", i, c, n)
		}
	}
	r := rand.New(rand.NewSource(15))
	for range 50 {
		n := grown(r)
		if c := netlist.Copy(n); !sameMembers(c, n) {
			t.Errorf("%v, not %v", c, n)
		}
	}
}

// stretch is the memory of a slice, its spare capacity too.
type stretch struct{ from, to uintptr }

// memory returns the stretches of all slices in values.
func memory(values ...any) []stretch {
	var l []stretch
	var visit func(v reflect.Value)
	visit = func(v reflect.Value) {
		switch v.Kind() {
		case reflect.Struct:
			for i := range v.NumField() {
				visit(v.Field(i))
			}
		case reflect.Slice:
			size := uintptr(v.Cap()) * v.Type().Elem().Size()
			if size > 0 {
				l = append(l, stretch{v.Pointer(), v.Pointer() + size})
			}
			for i := range v.Len() {
				visit(v.Index(i))
			}
		}
	}
	for _, x := range values {
		visit(reflect.ValueOf(x))
	}
	return l
}

// apart checks that the slices of results share no memory with each other and with other values.
func apart(t *testing.T, what string, others []stretch, results ...any) {
	t.Helper()
	mine := memory(results...)
	for i, a := range mine {
		for _, b := range slices.Concat(others, mine[i+1:]) {
			if a.from < b.to && b.from < a.to {
				t.Errorf("%s: shared memory", what)
			}
		}
	}
}

// spare returns a list with capacity behind it, which has the value x.
func spare[T any](l []T, x T) []T {
	return append(slices.Clone(l), x, x, x)[:len(l)]
}

// roomy returns a netlist in memory with capacity behind all lists.
func roomy(n api.Netlist) api.Netlist {
	n = api.Netlist{In: spare(n.In, "?"), Out: spare(n.Out, "?"), Flops: spare(n.Flops, api.Flop{Name: "?", D: 77}), Gates: spare(n.Gates, api.Gate{Cell: 77}), Outs: spare(n.Outs, 77)}
	for i, g := range n.Gates {
		n.Gates[i].Ins = spare(g.Ins, 77)
	}
	return n
}

// whole returns a netlist with all that is behind its lists, in new memory; it uses nothing of the program.
func whole(n api.Netlist) api.Netlist {
	gates := slices.Clone(n.Gates[:cap(n.Gates)])
	for i, g := range gates {
		gates[i].Ins = slices.Clone(g.Ins[:cap(g.Ins)])
	}
	return api.Netlist{In: slices.Clone(n.In[:cap(n.In)]), Out: slices.Clone(n.Out[:cap(n.Out)]), Flops: slices.Clone(n.Flops[:cap(n.Flops)]), Gates: gates, Outs: slices.Clone(n.Outs[:cap(n.Outs)])}
}

// Z2: arguments stay as they are, and results are in memory of their own.
func TestMemory(t *testing.T) {
	r := rand.New(rand.NewSource(2))
	for range 100 {
		n := roomy(grown(r))
		before := whole(n)
		given := memory(n)
		check := func(what string, e api.Errno, results ...any) {
			if !sameMembers(whole(n), before) {
				t.Fatalf("%s changes its netlist", what)
			}
			apart(t, what, given, results...)
		}
		all(n, check)
		check("Copy", api.OK, netlist.Copy(n))
		check("Init", api.OK, netlist.Init(n))
		check("Same", api.OK, netlist.Same(n, n))
		check("Form", netlist.Form(n))
		check("Check", netlist.Check(n, cells()))
		area, e := netlist.Area(n, cells())
		check("Area", e, area)
	}
}

// Z2, for arguments beside a netlist
func TestMemoryOfLists(t *testing.T) {
	n := base()
	in, state := spare([]uint64{5, 6}, 7), spare([]uint64{8, 9}, 7)
	given := memory(in, state)
	v, _ := netlist.Values(n, in, state)
	apart(t, "Values", given, v)
	out, next, _ := netlist.Words(n, in, state)
	apart(t, "Words", given, out, next)
	netlist.Look(6, in)
	if !slices.Equal(in[:5], []uint64{5, 6, 7, 7, 7}) || !slices.Equal(state[:5], []uint64{8, 9, 7, 7, 7}) {
		t.Error(in[:5], state[:5])
	}
	bits := spare([]bool{true, false}, true)
	trace := spare([][]bool{bits, bits}, nil)
	o, s, _ := netlist.Eval(n, bits, bits)
	outs, _ := netlist.Run(n, trace)
	apart(t, "Eval", memory(bits), o, s)
	apart(t, "Run", memory(bits, trace), outs)
	if !slices.Equal(bits[:5], []bool{true, false, true, true, true}) || !slices.Equal(trace[0], bits) || trace[2:3][0] != nil {
		t.Error(bits, trace)
	}
	lib := cells()
	netlist.Check(celled(), lib)
	netlist.Area(celled(), lib)
	if !reflect.DeepEqual(lib, cells()) {
		t.Error(lib)
	}
}

// Z2, for graphs
func TestMemoryOfGraphs(t *testing.T) {
	r := rand.New(rand.NewSource(3))
	for range 100 {
		g, d, en := grownGraph(r)
		g.In, g.Out, g.Regs, g.Ands, g.Outs = spare(g.In, "?"), spare(g.Out, "?"), spare(g.Regs, api.Reg{Name: "?"}), spare(g.Ands, api.Node{A: 77, B: 78}), spare(g.Outs, 77)
		d, en = spare(d, 77), spare(en, 77)
		parts := func() []any {
			return []any{g.In[:cap(g.In)], g.Out[:cap(g.Out)], g.Regs[:cap(g.Regs)], g.Ands[:cap(g.Ands)], g.Outs[:cap(g.Outs)], d[:cap(d)], en[:cap(en)]}
		}
		before := []any{slices.Clone(g.In[:cap(g.In)]), slices.Clone(g.Out[:cap(g.Out)]), slices.Clone(g.Regs[:cap(g.Regs)]), slices.Clone(g.Ands[:cap(g.Ands)]), slices.Clone(g.Outs[:cap(g.Outs)]), slices.Clone(d[:cap(d)]), slices.Clone(en[:cap(en)])}
		n, _ := netlist.With(g, d, en)
		apart(t, "With", memory(g, d, en), n)
		n, _ = netlist.Of(g)
		apart(t, "Of", memory(g), n)
		if !reflect.DeepEqual(parts(), before) {
			t.Fatalf("%v, not %v", parts(), before)
		}
	}
}
