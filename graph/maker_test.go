package graph_test

import (
	"math"
	"math/rand"
	"slices"
	"testing"

	"maskwright/api"
	"maskwright/graph"
)

// mask is the table of literal i among six literals, as words: bit k is bit i of k.
func mask(i int) uint64 {
	w := uint64(0)
	for k := range 64 {
		if k>>i&1 == 1 {
			w |= 1 << k
		}
	}
	return w
}

// model is a maker with the function of each literal of at most six inputs and registers, as a table of all their values.
type model struct {
	*graph.Maker
	nodes int
}

// newModel returns a model with n inputs, and registers up to six of both.
func newModel(n int) *model {
	return &model{graph.New(names("i", n), regs("r", 6-n)), 7}
}

// tables returns the tables of all nodes.
func (m *model) tables(t *testing.T, n int) []uint64 {
	t.Helper()
	g, e := m.Graph(nil, nil, make([]api.Lit, 6-n))
	if e != api.OK {
		t.Fatalf("error %d", e)
	}
	var in, state []uint64
	for i := range n {
		in = append(in, mask(i))
	}
	for i := n; i < 6; i++ {
		state = append(state, mask(i))
	}
	v, e := graph.Values(g, in, state)
	if e != api.OK {
		t.Fatalf("error %d", e)
	}
	return v
}

// of returns the table of a literal.
func of(v []uint64, l api.Lit) uint64 {
	if l%2 == 1 {
		return ^v[l/2]
	}
	return v[l/2]
}

// P14.11
func TestFunctions(t *testing.T) {
	r := rand.New(rand.NewSource(1411))
	for k := range 300 {
		n := k % 7
		m := newModel(n)
		for range 30 {
			nodes := m.Nodes()
			lit := func() api.Lit { return api.Lit(r.Intn(2 * nodes)) }
			a, b, s := lit(), lit(), lit()
			v := m.tables(t, n)
			x, y, z := of(v, a), of(v, b), of(v, s)
			var got api.Lit
			var want uint64
			room := 3
			what := r.Intn(4)
			switch what {
			case 0:
				got, want, room = m.And(a, b), x&y, 1
			case 1:
				got, want, room = m.Or(a, b), x|y, 1
			case 2:
				got, want = m.Xor(a, b), x^y
			case 3:
				got, want = m.Mux(s, a, b), z&x|^z&y
			}
			if m.Nodes() > nodes+room || of(m.tables(t, n), got) != want {
				t.Fatalf("function %d of %d, %d and %d with %d nodes: %d, with %d nodes", what, s, a, b, nodes, got, m.Nodes())
			}
		}
		tidy(t, m, n)
	}
}

// tidy checks that no and of a maker is trivial or there twice.
func tidy(t *testing.T, m *model, n int) {
	t.Helper()
	g, e := m.Graph(nil, nil, make([]api.Lit, 6-n))
	if ands, _ := strashed(g); e != api.OK || !slices.Equal(ands, g.Ands) || m.Nodes() != 7+len(g.Ands) {
		t.Errorf("%v: trivial or double ands, or not %d nodes, error %d", g, m.Nodes(), e)
	}
}

// P14.11
func TestAnd(t *testing.T) {
	r := rand.New(rand.NewSource(14112))
	for range 200 {
		m := graph.New(names("i", 3), regs("r", 2))
		g := api.Graph{In: names("i", 3), Regs: regs("r", 2)}
		for range 60 {
			x := api.Node{A: api.Lit(r.Intn(2 * m.Nodes())), B: api.Lit(r.Intn(2 * m.Nodes()))}
			ands, became := strashed(api.Graph{In: g.In, Regs: g.Regs, Ands: append(slices.Clone(g.Ands), x)})
			if l := m.And(x.A, x.B); l != became[len(became)-1] || m.Nodes() != 6+len(ands) {
				t.Fatalf("%v, %v: %d, not %d, and %d nodes", g, x, l, became[len(became)-1], m.Nodes())
			}
			g.Ands = ands
		}
		if h, e := m.Graph(nil, nil, make([]api.Lit, 2)); e != api.OK || !sameMembers(h, g) {
			t.Errorf("%v, not %v, error %d", h, g, e)
		}
	}
}

// P14.11: the example of the chapter.
func TestXor(t *testing.T) {
	m := graph.New([]string{"a", "b"}, nil)
	l := m.Xor(2, 4)
	g, e := m.Graph(nil, nil, nil)
	if l != 11 || e != api.OK || !slices.Equal(g.Ands, []api.Node{{A: 2, B: 5}, {A: 3, B: 4}, {A: 7, B: 9}}) {
		t.Errorf("%d, %v, error %d", l, g, e)
	}
}

// P14.11: functions that take fewer ands than others do.
func TestFewAnds(t *testing.T) {
	for i, x := range []struct {
		f    func(m *graph.Maker) api.Lit
		want api.Lit
		made int
	}{
		{func(m *graph.Maker) api.Lit { return m.Mux(2, 4, 4) }, 4, 0},
		{func(m *graph.Maker) api.Lit { return m.Mux(2, 1, 0) }, 2, 0},
		{func(m *graph.Maker) api.Lit { return m.Mux(2, 0, 1) }, 3, 0},
		{func(m *graph.Maker) api.Lit { return m.Mux(0, 6, 4) }, 4, 0},
		{func(m *graph.Maker) api.Lit { return m.Mux(1, 6, 4) }, 6, 0},
		{func(m *graph.Maker) api.Lit { return m.Mux(2, 1, 4) }, 9, 1},
		{func(m *graph.Maker) api.Lit { return m.Mux(2, 4, 1) }, 9, 1},
		{func(m *graph.Maker) api.Lit { return m.Mux(2, 0, 4) }, 8, 1},
		{func(m *graph.Maker) api.Lit { return m.Mux(2, 4, 0) }, 8, 1},
		{func(m *graph.Maker) api.Lit { return m.Mux(2, 4, 6) }, 13, 3},
		{func(m *graph.Maker) api.Lit { return m.Xor(2, 0) }, 2, 0},
		{func(m *graph.Maker) api.Lit { return m.Xor(1, 2) }, 3, 0},
		{func(m *graph.Maker) api.Lit { return m.Xor(5, 5) }, 0, 0},
		{func(m *graph.Maker) api.Lit { return m.Xor(4, 5) }, 1, 0},
		{func(m *graph.Maker) api.Lit { return m.Or(4, 5) }, 1, 0},
		{func(m *graph.Maker) api.Lit { return m.Table(0b1110, []api.Lit{2, 4}) }, 9, 1},
		{func(m *graph.Maker) api.Lit { return m.Table(0b0001, []api.Lit{2, 4}) }, 8, 1},
	} {
		m := graph.New(names("i", 3), nil)
		if l := x.f(m); l != x.want || m.Nodes() != 4+x.made {
			t.Errorf("call %d: %d, not %d, with %d nodes", i, l, x.want, m.Nodes())
		}
	}
}

// P14.11
func TestLeaves(t *testing.T) {
	m := graph.New(names("i", 3), regs("r", 2))
	if m.Nodes() != 6 {
		t.Errorf("%d nodes", m.Nodes())
	}
	l := []api.Lit{m.In(0), m.In(1), m.In(2), m.Reg(0), m.Reg(1)}
	if !slices.Equal(l, []api.Lit{2, 4, 6, 8, 10}) {
		t.Error(l)
	}
	if m := graph.New(nil, nil); m.Nodes() != 1 || m.And(1, 1) != 1 || m.Or(0, 1) != 1 || m.Nodes() != 1 {
		t.Error("constants")
	}
	large := graph.New(names("i", 5000), regs("r", 6000)) // more than a graph can have
	if large.Nodes() != 11001 || large.In(4999) != 10000 || large.Reg(5999) != 22000 || large.And(10000, 22000) != 22002 || large.Nodes() != 11002 {
		t.Errorf("%d nodes", large.Nodes())
	}
	if g, e := large.Graph(nil, nil, make([]api.Lit, 6000)); e != api.ErrLarge || !blank(g) {
		t.Errorf("error %d", e)
	}
}

// entry returns the bit of a table for the values of literals in an entry of their own tables.
func entry(t uint64, l []uint64, k int) uint64 {
	at := 0
	for i, w := range l {
		at |= int(w>>k&1) << i
	}
	return t >> at & 1
}

// table checks a call of Table.
func table(t *testing.T, m *model, n int, f uint64, l []api.Lit) {
	t.Helper()
	before := m.Nodes()
	got := m.Table(f, l)
	v := m.tables(t, n)
	var in []uint64
	for _, x := range l {
		in = append(in, of(v, x))
	}
	want := uint64(0)
	for k := range 64 {
		want |= entry(f, in, k) << k
	}
	if made := m.Nodes() - before; of(v, got) != want || made > 3*(1<<len(l)-1) {
		t.Fatalf("table %x of %v: %d, with %d ands", f, l, got, made)
	}
}

// P14.11
func TestTable(t *testing.T) {
	r := rand.New(rand.NewSource(14113))
	for n := range 4 { // all functions of few literals, with anything in the bits that they do not have
		for f := range uint64(1) << (1 << n) {
			m := newModel(2)
			table(t, m, 2, f|r.Uint64()<<(1<<n), []api.Lit{2, 4, 6}[:n])
			tidy(t, m, 2)
		}
	}
	for range 500 { // some of many, also of literals that are there twice, or constants
		m := newModel(3)
		for range 3 {
			var l []api.Lit
			for range r.Intn(7) {
				l = append(l, api.Lit(r.Intn(2*m.Nodes())))
			}
			f := r.Uint64()
			if r.Intn(2) == 0 {
				f &= r.Uint64() & r.Uint64() & r.Uint64()
			}
			table(t, m, 3, f, l)
		}
		tidy(t, m, 3)
	}
}

// P14.11
func TestTableValues(t *testing.T) {
	m := graph.New(names("i", 6), nil)
	l := []api.Lit{2, 4, 6, 8, 10, 12}
	for _, x := range []struct {
		f    uint64
		l    []api.Lit
		want api.Lit
	}{
		{0, nil, 0}, {1, nil, 1}, {2, nil, 0}, {3, nil, 1}, {math.MaxUint64, l, 1}, {0, l, 0},
		{2, l[:1], 2}, {1, l[:1], 3}, {6, l[:1], 2}, {0b1100, l[:2], 4}, {0b0011, l[:2], 5}, {0b1010, l[:2], 2}, {0b1000, l[:2], 14}, {0b0111, l[:2], 15},
		{mask(5), l, 12}, {^mask(0), l, 3}, {mask(0) & mask(1), l, 14},
		{0b1000, []api.Lit{2, 2}, 2}, {0b1000, []api.Lit{2, 3}, 0}, {0b1000, []api.Lit{1, 4}, 4}, {0b0110, []api.Lit{4, 1}, 5}, {0b0110, []api.Lit{4, 4}, 0},
	} {
		if got := m.Table(x.f, x.l); got != x.want {
			t.Errorf("table %x of %v: %d, not %d", x.f, x.l, got, x.want)
		}
	}
}

// P14.11: literals on which a function does not depend.
func TestTableLooks(t *testing.T) {
	r := rand.New(rand.NewSource(14114))
	for k := range 2000 {
		n := 1 + k%6
		f := r.Uint64()
		l := []api.Lit{2, 4, 6, 8, 10, 12}[:n]
		i := r.Intn(n)
		if k%3 > 0 { // it does not depend on literal i
			f = f&^mask(i) | f&^mask(i)<<(1<<i)
		}
		depends := false
		for at := range 1 << n {
			other := at - 1<<i
			if at>>i&1 == 0 {
				other = at + 1<<i
			}
			depends = depends || f>>at&1 != f>>other&1
		}
		for _, bad := range []api.Lit{-1, -2, 14, 15, math.MinInt, math.MaxInt} {
			m, good := graph.New(names("i", 6), nil), graph.New(names("i", 6), nil)
			with := slices.Clone(l)
			with[i] = bad
			got, want, wantError := m.Table(f, with), api.Lit(0), api.ErrRange
			if !depends {
				want, wantError = good.Table(f, l), api.OK
			}
			g, e := m.Graph(nil, nil, nil)
			if h, _ := good.Graph(nil, nil, nil); got != want || e != wantError || !sameMembers(g, h) && e == api.OK || depends && m.Nodes() != 7 {
				t.Fatalf("table %x of %v: %d, not %d, error %d", f, with, got, want, e)
			}
		}
	}
}
