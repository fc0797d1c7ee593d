package graph_test

import (
	"math"
	"slices"
	"testing"

	"maskwright/api"
	"maskwright/graph"
)

// refusals are calls that a maker with three inputs and two registers (and the nodes 6 and 7) cannot do.
func refusals() []func(m *graph.Maker) api.Lit {
	l := []func(m *graph.Maker) api.Lit{
		func(m *graph.Maker) api.Lit { return m.In(-1) },
		func(m *graph.Maker) api.Lit { return m.In(3) },
		func(m *graph.Maker) api.Lit { return m.In(math.MaxInt) },
		func(m *graph.Maker) api.Lit { return m.In(math.MinInt) },
		func(m *graph.Maker) api.Lit { return m.Reg(-1) },
		func(m *graph.Maker) api.Lit { return m.Reg(2) },
		func(m *graph.Maker) api.Lit { return m.Reg(math.MaxInt) },
		func(m *graph.Maker) api.Lit { return m.Reg(math.MinInt) },
	}
	for _, bad := range []api.Lit{-1, -2, 16, 17, 8833, math.MaxInt, math.MinInt} {
		for _, good := range []api.Lit{0, 1, 2, 15} {
			l = append(l,
				func(m *graph.Maker) api.Lit { return m.And(bad, good) },
				func(m *graph.Maker) api.Lit { return m.And(good, bad) },
				func(m *graph.Maker) api.Lit { return m.Or(bad, good) },
				func(m *graph.Maker) api.Lit { return m.Or(good, bad) },
				func(m *graph.Maker) api.Lit { return m.Xor(bad, good) },
				func(m *graph.Maker) api.Lit { return m.Xor(good, bad) },
				func(m *graph.Maker) api.Lit { return m.Mux(bad, good, good) },
				func(m *graph.Maker) api.Lit { return m.Mux(good, bad, 4) },
				func(m *graph.Maker) api.Lit { return m.Mux(good, 4, bad) },
				func(m *graph.Maker) api.Lit { return m.Table(0b1000, []api.Lit{bad, good}) },
				func(m *graph.Maker) api.Lit { return m.Table(0b0110, []api.Lit{good, bad}) },
			)
		}
		l = append(l, func(m *graph.Maker) api.Lit { return m.And(bad, bad) })
	}
	return l
}

// seven are more literals than Table takes.
func seven(m *graph.Maker) api.Lit { return m.Table(0, []api.Lit{2, 2, 2, 2, 2, 2, -1}) }

// small returns a maker with three inputs, two registers, and two ands.
func small() *graph.Maker {
	m := graph.New(names("i", 3), regs("r", 2))
	m.And(2, 4)
	m.And(6, 13)
	return m
}

// P14.11
func TestRefusals(t *testing.T) {
	for i, f := range append(refusals(), seven) {
		want := api.ErrRange
		if i == len(refusals()) {
			want = api.ErrLarge
		}
		m := small()
		if l, n := f(m), m.Nodes(); l != 0 || n != 8 {
			t.Errorf("call %d: %d, with %d nodes", i, l, n)
		}
		// what can be done is still done
		if m.In(1) != 4 || m.Reg(1) != 10 || m.And(4, 2) != 12 || m.And(2, 6) != 16 || m.Xor(0, 5) != 5 || m.Table(1, []api.Lit{3}) != 2 || m.Nodes() != 9 {
			t.Errorf("call %d, then others: %d nodes", i, m.Nodes())
		}
		seven(m)
		m.In(9)
		for _, next := range [][]api.Lit{{0, 0}, {0}} {
			if g, e := m.Graph([]string{"o"}, []api.Lit{2}, next); e != want || !blank(g) {
				t.Errorf("call %d: %v, error %d, not %d", i, g, e, want)
			}
		}
	}
}

// full returns a maker with 30 inputs (2 to 60), and so many ands: first all of two inputs, of which none is inverted.
func full(ands int) *graph.Maker {
	m := graph.New(names("i", 30), nil)
	a, b := api.Lit(2), api.Lit(4)
	for m.Nodes() < 31+ands {
		m.And(a, b)
		if b += 2; b > 60 && a%2 == 0 {
			a += 2
			b = a + 2
		}
		if a == 60 { // then all ands of an inverted and and an input
			a, b = 63, 2
		}
		if b > 60 {
			a += 2
			b = 2
		}
	}
	return m
}

// errorOf returns the error that a maker without registers remembers, and the number of its ands.
func errorOf(m *graph.Maker) (api.Errno, int) {
	g, e := m.Graph(nil, nil, nil)
	return e, len(g.Ands)
}

// P14.11
func TestFull(t *testing.T) {
	for i, x := range []struct {
		ands int
		f    func(m *graph.Maker) api.Lit
		want api.Lit
		e    api.Errno
		made int
	}{
		{3999, func(m *graph.Maker) api.Lit { return m.And(3, 5) }, 2 * 4030, api.OK, 1},
		{4000, func(m *graph.Maker) api.Lit { return m.And(3, 5) }, 0, api.ErrLarge, 0},
		{4000, func(m *graph.Maker) api.Lit { return m.And(2, 4) }, 62, api.OK, 0},
		{4000, func(m *graph.Maker) api.Lit { return m.And(5, 5) }, 5, api.OK, 0},
		{4000, func(m *graph.Maker) api.Lit { return m.Or(3, 5) }, 63, api.OK, 0},
		{4000, func(m *graph.Maker) api.Lit { return m.Or(2, 4) }, 0, api.ErrLarge, 0},
		{3999, func(m *graph.Maker) api.Lit { return m.Or(2, 4) }, 2*4030 + 1, api.OK, 1},
		{3997, func(m *graph.Maker) api.Lit { return m.Xor(2, 4) }, 2*4030 + 1, api.OK, 3},
		{3998, func(m *graph.Maker) api.Lit { return m.Xor(2, 4) }, 0, api.ErrLarge, 0},
		{3999, func(m *graph.Maker) api.Lit { return m.Xor(2, 4) }, 0, api.ErrLarge, 0},
		{4000, func(m *graph.Maker) api.Lit { return m.Xor(2, 4) }, 0, api.ErrLarge, 0},
		{4000, func(m *graph.Maker) api.Lit { return m.Xor(2, 1) }, 3, api.OK, 0},
		{4000, func(m *graph.Maker) api.Lit { return m.Mux(2, 5, 7) }, 0, api.ErrLarge, 0},
		{4000, func(m *graph.Maker) api.Lit { return m.Mux(1, 5, 7) }, 5, api.OK, 0},
		{4000, func(m *graph.Maker) api.Lit { return m.Table(0b1000, []api.Lit{2, 4}) }, 62, api.OK, 0},
		{4000, func(m *graph.Maker) api.Lit { return m.Table(0b0110, []api.Lit{2, 4}) }, 0, api.ErrLarge, 0},
		{4000, func(m *graph.Maker) api.Lit { return m.And(-1, 3) }, 0, api.ErrRange, 0},
		{4000, func(m *graph.Maker) api.Lit { return m.Xor(2, 2*4031) }, 0, api.ErrRange, 0},
		{4000, func(m *graph.Maker) api.Lit { return m.Table(0b0110, []api.Lit{-1, 3}) }, 0, api.ErrRange, 0},
		{4000, seven, 0, api.ErrLarge, 0},
	} {
		m := full(x.ands)
		if e, n := errorOf(m); e != api.OK || n != x.ands {
			t.Fatalf("%d ands, error %d", n, e)
		}
		l, n := x.f(m), m.Nodes()
		if e, _ := errorOf(m); l != x.want || e != x.e || n != 31+x.ands+x.made {
			t.Errorf("call %d: %d, not %d; error %d, not %d; %d nodes", i, l, x.want, e, x.e, n)
		}
	}
}

// P14.11: after a call that found no room in the middle, there is nothing of it.
func TestFullAgain(t *testing.T) {
	m := full(3998)
	for range 3 {
		if l := m.Xor(2, 4); l != 0 || m.Nodes() != 31+3998 {
			t.Errorf("%d, %d nodes", l, m.Nodes())
		}
	}
	if m.And(2, 4) != 62 || m.And(3, 4) != 2*4029 || m.And(2, 5) != 2*4030 || m.And(3, 4) != 2*4029 || m.Nodes() != 31+4000 {
		t.Errorf("%d nodes", m.Nodes())
	}
	if m.Xor(2, 4) != 0 || m.And(3, 5) != 0 || m.And(5, 2) != 2*4030 || m.In(29) != 60 {
		t.Errorf("%d nodes", m.Nodes())
	}
	m.In(-1)
	if e, n := errorOf(m); e != api.ErrLarge || n != 0 {
		t.Errorf("error %d, %d ands", e, n)
	}
}

// P14.12
func TestGraph(t *testing.T) {
	m := graph.New([]string{"a", "b"}, []api.Reg{{Name: "r", Next: -7, Init: true}, {Name: "s", Next: 99}})
	x := m.And(m.In(0), m.Reg(1))
	g, e := m.Graph([]string{"o", "p"}, []api.Lit{x, 1}, []api.Lit{3, 11})
	want := api.Graph{In: []string{"a", "b"}, Out: []string{"o", "p"}, Regs: []api.Reg{{Name: "r", Next: 3, Init: true}, {Name: "s", Next: 11}}, Ands: []api.Node{{A: 2, B: 8}}, Outs: []api.Lit{10, 1}}
	if e != api.OK || !sameMembers(g, want) {
		t.Errorf("%v, error %d", g, e)
	}
	// the maker goes on, and can make another graph
	y := m.Or(x, 4)
	want.Out, want.Outs, want.Regs[0].Next = []string{"q"}, []api.Lit{y}, 0
	want.Ands = append(want.Ands, api.Node{A: 5, B: 11})
	if g, e = m.Graph([]string{"q"}, []api.Lit{y}, []api.Lit{0, 11}); e != api.OK || !sameMembers(g, want) || y != 13 {
		t.Errorf("%v, error %d", g, e)
	}
}

// P14.12
func TestGraphErrors(t *testing.T) {
	good := func() *graph.Maker { return small() }
	for i, x := range []struct {
		m          *graph.Maker
		out        []string
		outs, next []api.Lit
		e          api.Errno
	}{
		{good(), nil, nil, []api.Lit{0, 0}, api.OK}, {good(), []string{"i0"}, []api.Lit{15}, []api.Lit{15, 1}, api.OK},
		{good(), nil, nil, nil, api.ErrForm}, {good(), nil, nil, []api.Lit{0}, api.ErrForm}, {good(), nil, nil, []api.Lit{0, 0, 0}, api.ErrForm},
		{good(), []string{"o"}, nil, []api.Lit{0, 0}, api.ErrForm}, {good(), nil, []api.Lit{0}, []api.Lit{0, 0}, api.ErrForm},
		{good(), []string{"o", "o"}, []api.Lit{0, 0}, []api.Lit{0, 0}, api.ErrTwice}, {good(), []string{"o", "o"}, []api.Lit{0, 0}, []api.Lit{0}, api.ErrForm},
		{good(), []string{" "}, []api.Lit{0}, []api.Lit{0, 0}, api.ErrName}, {good(), names("o", 129), make([]api.Lit, 129), []api.Lit{0, 0}, api.ErrLarge}, {good(), names("o", 129), make([]api.Lit, 129), []api.Lit{0}, api.ErrForm},
		{good(), []string{"o"}, []api.Lit{16}, []api.Lit{0, 0}, api.ErrRange}, {good(), []string{"o"}, []api.Lit{-1}, []api.Lit{0, 0}, api.ErrRange},
		{good(), nil, nil, []api.Lit{0, 16}, api.ErrRange}, {good(), nil, nil, []api.Lit{-1, 0}, api.ErrRange},
		{graph.New([]string{"a", "a"}, nil), nil, nil, nil, api.ErrTwice}, {graph.New([]string{"a"}, regs("a", 1)), nil, nil, []api.Lit{0}, api.OK}, {graph.New([]string{"a0"}, regs("a", 1)), nil, nil, []api.Lit{0}, api.ErrTwice},
		{graph.New([]string{""}, nil), nil, nil, nil, api.ErrName}, {graph.New(names("i", 129), nil), nil, nil, nil, api.ErrLarge}, {graph.New(nil, regs("r", 289)), nil, nil, make([]api.Lit, 289), api.ErrLarge}, {graph.New(nil, regs("r", 288)), nil, nil, make([]api.Lit, 288), api.OK},
	} {
		for range 2 { // an error of Graph is not remembered
			if g, e := x.m.Graph(x.out, x.outs, x.next); e != x.e || e != api.OK && !blank(g) {
				t.Errorf("%d: %v, error %d, not %d", i, g, e, x.e)
			}
		}
		x.m.And(-1, -1)
		if g, e := x.m.Graph(x.out, x.outs, x.next); e != api.ErrRange || !blank(g) {
			t.Errorf("%d: %v, error %d", i, g, e)
		}
	}
	m := good()
	if _, e := m.Graph(nil, nil, nil); e != api.ErrForm || m.And(2, 4) != 12 {
		t.Errorf("error %d", e)
	}
	if _, e := m.Graph(nil, nil, []api.Lit{0, 0}); e != api.OK {
		t.Errorf("error %d", e)
	}
}

// Z2, for makers
func TestMakerMemory(t *testing.T) {
	in, list := spare([]string{"a", "b"}, "?"), spare([]api.Reg{{Name: "r", Next: 5}}, api.Reg{Name: "?"})
	m, same := graph.New(in, list), graph.New([]string{"a", "b"}, []api.Reg{{Name: "r"}})
	if in[0], list[0].Name = "c", "d"; !slices.Equal(in[:5], []string{"c", "b", "?", "?", "?"}) || list[0].Next != 5 || list[:2][1].Name != "?" {
		t.Error(in[:5], list[:2])
	}
	l := spare([]api.Lit{2, 4, 6}, 9)
	m.Table(0x96, l)
	same.Table(0x96, l)
	if !slices.Equal(l[:6], []api.Lit{2, 4, 6, 9, 9, 9}) {
		t.Error(l[:6])
	}
	out, outs, next := spare([]string{"o"}, "?"), spare([]api.Lit{4}, 9), spare([]api.Lit{5}, 9)
	want, _ := same.Graph(out, outs, next)
	for range 3 {
		g, e := m.Graph(out, outs, next)
		if e != api.OK || !sameMembers(g, want) || !slices.Equal(outs[:4], []api.Lit{4, 9, 9, 9}) || !slices.Equal(next[:4], []api.Lit{5, 9, 9, 9}) || !slices.Equal(out[:4], []string{"o", "?", "?", "?"}) {
			t.Fatalf("%v, not %v, error %d", g, want, e)
		}
		apart(t, "Graph", memory(in, list, l, out, outs, next, want), g)
		for i := range g.Ands[:cap(g.Ands)] { // what becomes of a result does not matter to the maker
			g.Ands[:cap(g.Ands)][i] = api.Node{A: 77, B: 77}
		}
		g.In[0], g.Regs[0] = "?", api.Reg{}
	}
}
