package netlist_test

import (
	"math/rand"
	"slices"
	"testing"

	"maskwright/api"
	"maskwright/netlist"
)

// row returns the bit of a table for the values of inputs, counted as a number; it uses nothing of the program.
func row(table uint64, ins []bool) bool {
	weight := uint64(1)
	at := uint64(0)
	for _, b := range ins {
		if b {
			at += weight
		}
		weight *= 2
	}
	for range at {
		table /= 2
	}
	return table%2 == 1
}

// lane says what the nets of a netlist are in one lane, from the roots down; it uses nothing of the program.
type lane struct {
	n         api.Netlist
	in, state []bool
	known     map[int]bool // the values of gates
}

// net returns the value of a net.
func (x lane) net(i int) bool {
	if i < 2 {
		return i == 1
	}
	if i -= 2; i < len(x.in) {
		return x.in[i]
	}
	if i -= len(x.in); i < len(x.state) {
		return x.state[i]
	}
	i -= len(x.state)
	if v, ok := x.known[i]; ok {
		return v
	}
	var ins []bool
	for _, k := range x.n.Gates[i].Ins {
		ins = append(ins, x.net(k))
	}
	v := row(x.n.Gates[i].Table, ins)
	x.known[i] = v
	return v
}

// outs returns the values of the outputs.
func (x lane) outs() []bool {
	var l []bool
	for _, i := range x.n.Outs {
		l = append(l, x.net(i))
	}
	return l
}

// next returns what the flip-flops have in the next cycle.
func (x lane) next() []bool {
	var l []bool
	for i, f := range x.n.Flops {
		if x.net(f.En) {
			l = append(l, x.net(f.D))
		} else {
			l = append(l, x.state[i])
		}
	}
	return l
}

// laneOf returns lane k of words.
func laneOf(words []uint64, k int) []bool {
	l := make([]bool, len(words))
	for i, w := range words {
		l[i] = w/(1<<k)%2 == 1
	}
	return l
}

// words returns n random words.
func words(r *rand.Rand, n int) []uint64 {
	l := make([]uint64, n)
	for i := range l {
		l[i] = r.Uint64()
	}
	return l
}

// P15.4
func TestLook(t *testing.T) {
	r := rand.New(rand.NewSource(154))
	for n := range 7 {
		for range 100 {
			table, ins := r.Uint64(), words(r, n) // bits of the table that no inputs choose do not matter
			got := netlist.Look(table, ins)
			for k := range 64 {
				if laneOf([]uint64{got}, k)[0] != row(table, laneOf(ins, k)) {
					t.Fatalf("table %x, inputs %x, lane %d: %x", table, ins, k, got)
				}
			}
		}
	}
	for n := 7; n < 200; n++ {
		if w := netlist.Look(^uint64(0), words(r, n)); w != 0 {
			t.Errorf("%d inputs: %x", n, w)
		}
	}
	for _, x := range []struct {
		table uint64
		ins   []uint64
		want  uint64
	}{
		{0, nil, 0}, {1, nil, ^uint64(0)}, {2, nil, 0}, {3, []uint64{}, ^uint64(0)},
		{1, []uint64{5}, ^uint64(5)}, {2, []uint64{5}, 5}, {3, []uint64{5}, ^uint64(0)}, {4, []uint64{5}, 0},
		{2, []uint64{0b1100, 0b1010}, 0b0100}, {4, []uint64{0b1100, 0b1010}, 0b0010}, {8, []uint64{0b1100, 0b1010}, 0b1000},
		{1 << 63, []uint64{63, 127, 255, 511, 1023, 2047}, 63}, {1 << 32, []uint64{1, 2, 4, 8, 16, 1 << 63}, 1 << 63},
	} {
		if w := netlist.Look(x.table, x.ins); w != x.want {
			t.Errorf("table %x, inputs %x: %x, not %x", x.table, x.ins, w, x.want)
		}
	}
}

// P15.5
func TestLanesOfRandomNetlists(t *testing.T) {
	r := rand.New(rand.NewSource(155))
	kept := 0
	for range 300 {
		n := grown(r)
		in, state := words(r, len(n.In)), words(r, len(n.Flops))
		v, e := netlist.Values(n, in, state)
		out, next, f := netlist.Words(n, in, state)
		if e != api.OK || f != api.OK || len(v) != 2+len(n.In)+len(n.Flops)+len(n.Gates) || len(out) != len(n.Outs) || len(next) != len(n.Flops) {
			t.Fatalf("%v: errors %d and %d, %d values, %d outputs, %d flip-flops", n, e, f, len(v), len(out), len(next))
		}
		for k := range 64 {
			x := lane{n, laneOf(in, k), laneOf(state, k), map[int]bool{}}
			for i, b := range laneOf(v, k) {
				if b != x.net(i) {
					t.Fatalf("%v, lane %d: net %d is %v", n, k, i, b)
				}
			}
			o, s, e := netlist.Eval(n, x.in, x.state)
			if !slices.Equal(laneOf(out, k), x.outs()) || !slices.Equal(laneOf(next, k), x.next()) || !slices.Equal(o, x.outs()) || !slices.Equal(s, x.next()) || e != api.OK {
				t.Fatalf("%v, lane %d: outputs %v, flip-flops %v, error %d", n, k, o, s, e)
			}
			for i, f := range n.Flops {
				if !x.net(f.En) && x.net(f.D) != x.state[i] {
					kept++
				}
			}
		}
	}
	if kept < 1000 {
		t.Errorf("only %d values are kept", kept)
	}
}

// P15.5
func TestValuesOfBase(t *testing.T) {
	ones := ^uint64(0)
	v, e := netlist.Values(base(), []uint64{0b1100, 0b1010}, []uint64{0b1111, 0b0110})
	// 6 is a and b; 7 is the opposite of r; 8 is 7 where 6 is 1, otherwise s
	if want := []uint64{0, ones, 0b1100, 0b1010, 0b1111, 0b0110, 0b1000, ones << 4, 0b0110, ones}; e != api.OK || !slices.Equal(v, want) {
		t.Errorf("%b, error %d", v, e)
	}
	out, next, e := netlist.Words(base(), []uint64{0b1100, 0b1010}, []uint64{0b1111, 0b0110})
	// r takes 8; s takes b where 6 is 1
	if e != api.OK || !slices.Equal(out, []uint64{0b0110, 0b1111}) || !slices.Equal(next, []uint64{0b0110, 0b1110}) {
		t.Errorf("%b, %b, error %d", out, next, e)
	}
	v, e = netlist.Values(api.Netlist{}, nil, nil)
	if e != api.OK || !slices.Equal(v, []uint64{0, ones}) {
		t.Errorf("%b, error %d", v, e)
	}
	// flip-flops that always, or never, take 1, and one that takes 0
	n := api.Netlist{Out: []string{"o", "p"}, Outs: []int{0, 1}, Flops: []api.Flop{{Name: "r", D: 1, En: 1}, {Name: "s", D: 1, En: 0}, {Name: "t", D: 0, En: 1}}}
	out, next, e = netlist.Words(n, nil, []uint64{5, 6, 7})
	if e != api.OK || !slices.Equal(out, []uint64{0, ones}) || !slices.Equal(next, []uint64{ones, 6, 0}) {
		t.Errorf("%b, %b, error %d", out, next, e)
	}
}

// P15.5
func TestWidths(t *testing.T) {
	invalid := base()
	invalid.Outs[0] = 99
	for _, x := range []struct {
		n         api.Netlist
		in, state int
		e         api.Errno
	}{
		{base(), 2, 2, api.OK}, {base(), 1, 2, api.ErrWidth}, {base(), 3, 2, api.ErrWidth}, {base(), 0, 2, api.ErrWidth},
		{base(), 2, 1, api.ErrWidth}, {base(), 2, 3, api.ErrWidth}, {base(), 2, 0, api.ErrWidth}, {base(), 3, 1, api.ErrWidth}, {base(), 1, 3, api.ErrWidth}, {base(), 0, 4, api.ErrWidth}, {base(), 4, 0, api.ErrWidth},
		{api.Netlist{}, 0, 0, api.OK}, {api.Netlist{}, 1, 0, api.ErrWidth}, {api.Netlist{}, 0, 1, api.ErrWidth},
		{invalid, 2, 2, api.ErrRange}, {invalid, 1, 1, api.ErrRange},
	} {
		v, e := netlist.Values(x.n, make([]uint64, x.in), make([]uint64, x.state))
		if e != x.e || e != api.OK && !blank(v) {
			t.Errorf("%d and %d: %v, error %d, not %d", x.in, x.state, v, e, x.e)
		}
		o, s, e := netlist.Words(x.n, make([]uint64, x.in), make([]uint64, x.state))
		if e != x.e || e != api.OK && !blank(o, s) {
			t.Errorf("%d and %d: %v, %v, error %d, not %d", x.in, x.state, o, s, e, x.e)
		}
		p, q, e := netlist.Eval(x.n, make([]bool, x.in), make([]bool, x.state))
		if e != x.e || e != api.OK && !blank(p, q) {
			t.Errorf("%d and %d: %v, %v, error %d, not %d", x.in, x.state, p, q, e, x.e)
		}
	}
}

// P15.5
func TestInit(t *testing.T) {
	for _, x := range []struct {
		n    api.Netlist
		want []bool
	}{
		{base(), []bool{true, false}},
		{api.Netlist{In: []string{"a"}}, nil},
		{api.Netlist{Flops: []api.Flop{{D: -1}, {Init: true}, {Init: true}}}, []bool{false, true, true}},
		{api.Netlist{Flops: make([]api.Flop, 500), Outs: make([]int, 3)}, make([]bool, 500)},
	} {
		if l := netlist.Init(x.n); !slices.Equal(l, x.want) {
			t.Errorf("%v, not %v", l, x.want)
		}
	}
}

// P15.6
func TestRunOfRandomNetlists(t *testing.T) {
	r := rand.New(rand.NewSource(156))
	for k := range 200 {
		n := grown(r)
		in := make([][]bool, k%65)
		for c := range in {
			for range n.In {
				in[c] = append(in[c], r.Intn(2) == 0)
			}
		}
		outs, e := netlist.Run(n, in)
		if e != api.OK || len(outs) != len(in) {
			t.Fatalf("%v: %d cycles, error %d", n, len(outs), e)
		}
		var state []bool
		for _, f := range n.Flops {
			state = append(state, f.Init)
		}
		for c := range in {
			x := lane{n, in[c], state, map[int]bool{}}
			if !slices.Equal(outs[c], x.outs()) {
				t.Fatalf("%v, %v: cycle %d is %v", n, in, c, outs[c])
			}
			state = x.next()
		}
	}
}

// P15.6
func TestRunErrors(t *testing.T) {
	invalid := base()
	invalid.Flops[0].D = -1
	with := func(cycles, at, width int) [][]bool {
		l := make([][]bool, cycles)
		for i := range l {
			l[i] = make([]bool, 2)
		}
		if at >= 0 {
			l[at] = make([]bool, width)
		}
		return l
	}
	for _, x := range []struct {
		n     api.Netlist
		trace [][]bool
		e     api.Errno
	}{
		{base(), nil, api.OK}, {base(), with(1, -1, 0), api.OK}, {base(), with(64, -1, 0), api.OK}, {api.Netlist{}, make([][]bool, 64), api.OK},
		{base(), with(65, -1, 0), api.ErrLarge}, {base(), with(65, 0, 1), api.ErrLarge}, {base(), with(1000, 3, 3), api.ErrLarge}, {api.Netlist{}, make([][]bool, 65), api.ErrLarge},
		{base(), with(1, 0, 1), api.ErrWidth}, {base(), with(1, 0, 3), api.ErrWidth}, {base(), with(64, 0, 0), api.ErrWidth}, {base(), with(64, 63, 3), api.ErrWidth}, {base(), with(64, 30, 1), api.ErrWidth},
		{api.Netlist{}, [][]bool{{true}}, api.ErrWidth},
		{invalid, with(65, 0, 1), api.ErrRange}, {invalid, with(2, 0, 1), api.ErrRange}, {invalid, nil, api.ErrRange},
	} {
		outs, e := netlist.Run(x.n, x.trace)
		if e != x.e || e != api.OK && !blank(outs) || e == api.OK && len(outs) != len(x.trace) {
			t.Errorf("%d cycles: %d, error %d, not %d", len(x.trace), len(outs), e, x.e)
		}
	}
}
