package graph_test

import (
	"math/rand"
	"slices"
	"testing"

	"maskwright/api"
	"maskwright/graph"
)

// lane says what the literals of a graph are in one lane, from the roots down; it uses nothing of the program.
type lane struct {
	g         api.Graph
	in, state []bool
	known     map[int]bool // the values of ands
}

// bit returns the value of a literal.
func (x lane) bit(l api.Lit) bool {
	return x.node(int(l)/2) != (l%2 == 1)
}

// node returns the value of a node.
func (x lane) node(i int) bool {
	if i == 0 {
		return false
	}
	if i--; i < len(x.in) {
		return x.in[i]
	}
	if i -= len(x.in); i < len(x.state) {
		return x.state[i]
	}
	i -= len(x.state)
	if v, ok := x.known[i]; ok {
		return v
	}
	v := x.bit(x.g.Ands[i].A) && x.bit(x.g.Ands[i].B)
	x.known[i] = v
	return v
}

// laneOf returns lane k of words.
func laneOf(words []uint64, k int) []bool {
	l := make([]bool, len(words))
	for i, w := range words {
		l[i] = w/(1<<k)%2 == 1
	}
	return l
}

// words returns n random words.
func words(r *rand.Rand, n int) []uint64 {
	l := make([]uint64, n)
	for i := range l {
		l[i] = r.Uint64()
	}
	return l
}

// P14.4
func TestLanesOfRandomGraphs(t *testing.T) {
	r := rand.New(rand.NewSource(144))
	for range 300 {
		g := grown(r, "")
		in, state := words(r, len(g.In)), words(r, len(g.Regs))
		v, e := graph.Values(g, in, state)
		out, next, f := graph.Words(g, in, state)
		if e != api.OK || f != api.OK || len(v) != 1+len(g.In)+len(g.Regs)+len(g.Ands) || len(out) != len(g.Outs) || len(next) != len(g.Regs) {
			t.Fatalf("%v: errors %d and %d, %d values, %d outputs, %d registers", g, e, f, len(v), len(out), len(next))
		}
		for k := range 64 {
			x := lane{g, laneOf(in, k), laneOf(state, k), map[int]bool{}}
			for i, b := range laneOf(v, k) {
				if b != x.node(i) {
					t.Fatalf("%v, lane %d: node %d is %v", g, k, i, b)
				}
			}
			var wantOut, wantNext []bool
			for _, l := range g.Outs {
				wantOut = append(wantOut, x.bit(l))
			}
			for _, y := range g.Regs {
				wantNext = append(wantNext, x.bit(y.Next))
			}
			o, n, e := graph.Eval(g, x.in, x.state)
			if !slices.Equal(laneOf(out, k), wantOut) || !slices.Equal(laneOf(next, k), wantNext) || !slices.Equal(o, wantOut) || !slices.Equal(n, wantNext) || e != api.OK {
				t.Fatalf("%v, lane %d: outputs %v, registers %v, error %d", g, k, o, n, e)
			}
		}
	}
}

// P14.4
func TestValuesOfBase(t *testing.T) {
	v, e := graph.Values(base(), []uint64{0b1100, 0b1010}, []uint64{0b1111, 0b0110})
	// and 5 is a and b; and 6 is r, but not 5; and 7 is neither 6 nor s
	if want := []uint64{0, 0b1100, 0b1010, 0b1111, 0b0110, 0b1000, 0b0111, ^uint64(0b0111)}; e != api.OK || !slices.Equal(v[:7], want[:7]) || v[7] != ^uint64(0b0111)&^uint64(0b0110) {
		t.Errorf("%b, error %d", v, e)
	}
	v, e = graph.Values(api.Graph{}, nil, nil)
	if e != api.OK || !slices.Equal(v, []uint64{0}) {
		t.Errorf("%b, error %d", v, e)
	}
	out, next, e := graph.Words(api.Graph{Out: []string{"o", "p"}, Outs: []api.Lit{0, 1}, Regs: []api.Reg{{Name: "r", Next: 1}}}, nil, []uint64{5})
	if e != api.OK || !slices.Equal(out, []uint64{0, ^uint64(0)}) || !slices.Equal(next, []uint64{^uint64(0)}) {
		t.Errorf("%b, %b, error %d", out, next, e)
	}
}

// P14.4
func TestWidths(t *testing.T) {
	invalid := base()
	invalid.Outs[0] = 99
	for _, x := range []struct {
		g         api.Graph
		in, state int
		e         api.Errno
	}{
		{base(), 2, 2, api.OK}, {base(), 1, 2, api.ErrWidth}, {base(), 3, 2, api.ErrWidth}, {base(), 0, 2, api.ErrWidth},
		{base(), 2, 1, api.ErrWidth}, {base(), 2, 3, api.ErrWidth}, {base(), 2, 0, api.ErrWidth}, {base(), 3, 1, api.ErrWidth}, {base(), 1, 3, api.ErrWidth}, {base(), 0, 4, api.ErrWidth}, {base(), 4, 0, api.ErrWidth},
		{api.Graph{}, 0, 0, api.OK}, {api.Graph{}, 1, 0, api.ErrWidth}, {api.Graph{}, 0, 1, api.ErrWidth},
		{invalid, 2, 2, api.ErrRange}, {invalid, 1, 1, api.ErrRange},
	} {
		v, e := graph.Values(x.g, make([]uint64, x.in), make([]uint64, x.state))
		if e != x.e || e != api.OK && !blank(v) {
			t.Errorf("%d and %d: %v, error %d, not %d", x.in, x.state, v, e, x.e)
		}
		o, n, e := graph.Words(x.g, make([]uint64, x.in), make([]uint64, x.state))
		if e != x.e || e != api.OK && !blank(o, n) {
			t.Errorf("%d and %d: %v, %v, error %d, not %d", x.in, x.state, o, n, e, x.e)
		}
		p, q, e := graph.Eval(x.g, make([]bool, x.in), make([]bool, x.state))
		if e != x.e || e != api.OK && !blank(p, q) {
			t.Errorf("%d and %d: %v, %v, error %d, not %d", x.in, x.state, p, q, e, x.e)
		}
	}
}

// P14.4
func TestLanes(t *testing.T) {
	if l := graph.Lanes([]bool{true, false, false, true}); !slices.Equal(l, []uint64{1, 0, 0, 1}) {
		t.Error(l)
	}
	if l := graph.Lane([]uint64{1, 0, 2, 3, ^uint64(0), 1 << 63, ^uint64(1)}); !slices.Equal(l, []bool{true, false, false, true, true, false, false}) {
		t.Error(l)
	}
	if len(graph.Lanes(nil)) > 0 || len(graph.Lane(nil)) > 0 {
		t.Error("nothing has lanes")
	}
}

// P14.4
func TestInit(t *testing.T) {
	for _, x := range []struct {
		g    api.Graph
		want []bool
	}{
		{base(), []bool{true, false}},
		{api.Graph{In: []string{"a"}}, nil},
		{api.Graph{Regs: []api.Reg{{Next: -1}, {Init: true}, {Init: true}}}, []bool{false, true, true}},
		{api.Graph{Regs: make([]api.Reg, 500), Outs: make([]api.Lit, 3)}, make([]bool, 500)},
	} {
		if l := graph.Init(x.g); !slices.Equal(l, x.want) {
			t.Errorf("%v, not %v", l, x.want)
		}
	}
}

// trace returns random inputs for some cycles.
func trace(r *rand.Rand, g api.Graph, cycles int) [][]bool {
	l := make([][]bool, cycles)
	for i := range l {
		for range g.In {
			l[i] = append(l[i], r.Intn(2) == 0)
		}
	}
	return l
}

// P14.5
func TestRunOfRandomGraphs(t *testing.T) {
	r := rand.New(rand.NewSource(145))
	for k := range 200 {
		g := grown(r, "")
		in := trace(r, g, k%65)
		outs, e := graph.Run(g, in)
		if e != api.OK || len(outs) != len(in) {
			t.Fatalf("%v: %d cycles, error %d", g, len(outs), e)
		}
		var state []bool
		for _, y := range g.Regs {
			state = append(state, y.Init)
		}
		for c := range in {
			x := lane{g, in[c], state, map[int]bool{}}
			for i, l := range g.Outs {
				if len(outs[c]) != len(g.Outs) || outs[c][i] != x.bit(l) {
					t.Fatalf("%v, %v: cycle %d is %v", g, in, c, outs[c])
				}
			}
			state = nil
			for _, y := range g.Regs {
				state = append(state, x.bit(y.Next))
			}
		}
	}
}

// P14.5
func TestRunErrors(t *testing.T) {
	invalid := base()
	invalid.Regs[0].Next = -1
	with := func(cycles, at, width int) [][]bool {
		l := make([][]bool, cycles)
		for i := range l {
			l[i] = make([]bool, 2)
		}
		if at >= 0 {
			l[at] = make([]bool, width)
		}
		return l
	}
	for _, x := range []struct {
		g     api.Graph
		trace [][]bool
		e     api.Errno
	}{
		{base(), nil, api.OK}, {base(), with(1, -1, 0), api.OK}, {base(), with(64, -1, 0), api.OK}, {api.Graph{}, make([][]bool, 64), api.OK},
		{base(), with(65, -1, 0), api.ErrLarge}, {base(), with(65, 0, 1), api.ErrLarge}, {base(), with(1000, 3, 3), api.ErrLarge}, {api.Graph{}, make([][]bool, 65), api.ErrLarge},
		{base(), with(1, 0, 1), api.ErrWidth}, {base(), with(1, 0, 3), api.ErrWidth}, {base(), with(64, 0, 0), api.ErrWidth}, {base(), with(64, 63, 3), api.ErrWidth}, {base(), with(64, 30, 1), api.ErrWidth},
		{api.Graph{}, [][]bool{{true}}, api.ErrWidth},
		{invalid, with(65, 0, 1), api.ErrRange}, {invalid, with(2, 0, 1), api.ErrRange}, {invalid, nil, api.ErrRange},
	} {
		outs, e := graph.Run(x.g, x.trace)
		if e != x.e || e != api.OK && !blank(outs) || e == api.OK && len(outs) != len(x.trace) {
			t.Errorf("%d cycles: %d, error %d, not %d", len(x.trace), len(outs), e, x.e)
		}
	}
}
