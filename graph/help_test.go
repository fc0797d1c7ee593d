package graph_test

import (
	"math/rand"
	"reflect"
	"slices"
	"strconv"
	"testing"

	"maskwright/api"
	"maskwright/graph"
)

// base returns a valid graph with the nodes a 1, b 2, r 3, s 4, and the ands 5, 6 and 7.
func base() api.Graph {
	return api.Graph{
		In:   []string{"a", "b"},
		Out:  []string{"o", "p"},
		Regs: []api.Reg{{Name: "r", Next: 12, Init: true}, {Name: "s", Next: 15}},
		Ands: []api.Node{{A: 2, B: 4}, {A: 11, B: 6}, {A: 13, B: 9}},
		Outs: []api.Lit{14, 3},
	}
}

// names returns n names with numbers.
func names(s string, n int) []string {
	var l []string
	for i := range n {
		l = append(l, s+strconv.Itoa(i))
	}
	return l
}

// regs returns n registers with numbers.
func regs(s string, n int) []api.Reg {
	var l []api.Reg
	for _, x := range names(s, n) {
		l = append(l, api.Reg{Name: x})
	}
	return l
}

// some returns the elements of a list that a random source chooses, in a random order.
func some(r *rand.Rand, l []string) []string {
	l = slices.Clone(l)
	r.Shuffle(len(l), func(i, k int) { l[i], l[k] = l[k], l[i] })
	return l[:r.Intn(len(l)+1)]
}

// grown returns a random valid graph, with many trivial and double ands; the names of its registers and outputs begin with s.
func grown(r *rand.Rand, s string) api.Graph {
	g := api.Graph{In: some(r, names("i", 6)), Out: some(r, names(s+"o", 6))}
	for _, name := range some(r, names(s+"r", 5)) {
		g.Regs = append(g.Regs, api.Reg{Name: name, Init: r.Intn(2) == 0})
	}
	nodes := 1 + len(g.In) + len(g.Regs)
	lit := func() api.Lit {
		if r.Intn(3) > 0 { // one of the last nodes
			return api.Lit(2*nodes - 1 - r.Intn(min(10, 2*nodes)))
		}
		return api.Lit(r.Intn(2 * nodes))
	}
	for range r.Intn(40) {
		g.Ands = append(g.Ands, api.Node{A: lit(), B: lit()})
		nodes++
	}
	for range g.Out {
		g.Outs = append(g.Outs, lit())
	}
	for i := range g.Regs {
		g.Regs[i].Next = lit()
	}
	return g
}

// sameMembers reports whether two graphs have equal members; it uses nothing of the program.
func sameMembers(a, b api.Graph) bool {
	return slices.Equal(a.In, b.In) && slices.Equal(a.Out, b.Out) && slices.Equal(a.Regs, b.Regs) && slices.Equal(a.Ands, b.Ands) && slices.Equal(a.Outs, b.Outs)
}

// blank reports whether all values are zero, or lists without elements.
func blank(l ...any) bool {
	for _, x := range l {
		v := reflect.ValueOf(x)
		switch {
		case v.Kind() == reflect.Slice:
			if v.Len() > 0 {
				return false
			}
		case v.Type() == reflect.TypeFor[api.Graph]():
			if !sameMembers(v.Interface().(api.Graph), api.Graph{}) {
				return false
			}
		case !v.IsZero():
			return false
		}
	}
	return true
}

// all calls each function that checks a graph with arguments that fit the graph, and visits its name, its error, and its other results.
func all(g api.Graph, visit func(what string, e api.Errno, results ...any)) {
	in, state := make([]uint64, len(g.In)), make([]uint64, len(g.Regs))
	v, e := graph.Values(g, in, state)
	visit("Values", e, v)
	o, n, e := graph.Words(g, in, state)
	visit("Words", e, o, n)
	p, q, e := graph.Eval(g, make([]bool, len(g.In)), make([]bool, len(g.Regs)))
	visit("Eval", e, p, q)
	t, e := graph.Run(g, [][]bool{make([]bool, len(g.In))})
	visit("Run", e, t)
	l, e := graph.Levels(g)
	visit("Levels", e, l)
	d, e := graph.Depth(g)
	visit("Depth", e, d)
	c, e := graph.Cone(g, []api.Lit{0})
	visit("Cone", e, c)
	s, e := graph.Support(g, []api.Lit{0})
	visit("Support", e, s)
	h, numbers, e := graph.Clean(g)
	visit("Clean", e, h, numbers)
	h, became, e := graph.Strash(g)
	visit("Strash", e, h, became)
	h, e = graph.Join(g, api.Graph{})
	visit("Join of it and another", e, h)
	h, e = graph.Join(api.Graph{}, g)
	visit("Join of another and it", e, h)
	h, e = graph.Prefix(g, "")
	visit("Prefix", e, h)
}

// TestInvalid checks that every function returns the error of Check of a graph, and nothing else (Z3).
func TestInvalid(t *testing.T) {
	for i, f := range faults() {
		g := base()
		f.do(&g)
		all(g, func(what string, e api.Errno, results ...any) {
			if e != f.e || !blank(results...) {
				t.Errorf("%s of graph %d: error %d, not %d, and %v", what, i, e, f.e, results)
			}
		})
	}
	all(base(), func(what string, e api.Errno, results ...any) {
		if e != api.OK {
			t.Errorf("%s of a valid graph: error %d", what, e)
		}
	})
}
