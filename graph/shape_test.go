package graph_test

import (
	"math"
	"math/rand"
	"slices"
	"testing"

	"maskwright/api"
	"maskwright/graph"
)

// P14.6
func TestLevels(t *testing.T) {
	for _, x := range []struct {
		g      api.Graph
		levels []int
		depth  int
	}{
		{api.Graph{}, []int{0}, 0},
		{base(), []int{0, 0, 0, 0, 0, 1, 2, 3}, 3},
		{api.Graph{In: []string{"a"}, Ands: []api.Node{{A: 0, B: 1}, {A: 2, B: 5}, {A: 7, B: 7}}}, []int{0, 0, 1, 2, 3}, 0},
		{api.Graph{Ands: []api.Node{{A: 0, B: 1}, {A: 2, B: 0}}, Out: []string{"o"}, Outs: []api.Lit{3}}, []int{0, 1, 2}, 1},
		{api.Graph{Ands: []api.Node{{A: 0, B: 1}, {A: 2, B: 0}}, Out: []string{"o"}, Outs: []api.Lit{0}}, []int{0, 1, 2}, 0},
		{api.Graph{Regs: []api.Reg{{Name: "r", Next: 7}}, Ands: []api.Node{{A: 0, B: 2}, {A: 0, B: 4}, {A: 7, B: 4}}}, []int{0, 0, 1, 2, 3}, 2},
	} {
		levels, e := graph.Levels(x.g)
		depth, f := graph.Depth(x.g)
		if e != api.OK || f != api.OK || !slices.Equal(levels, x.levels) || depth != x.depth {
			t.Errorf("%v: levels %v, depth %d, errors %d and %d", x.g, levels, depth, e, f)
		}
	}
}

// P14.6
func TestLevelsOfRandomGraphs(t *testing.T) {
	r := rand.New(rand.NewSource(146))
	for range 300 {
		g := grown(r, "")
		first := 1 + len(g.In) + len(g.Regs)
		longest := map[int]int{} // the number of ands on the longest way up to a node; 0 if there is none
		for i, x := range g.Ands {
			longest[first+i] = max(longest[int(x.A)/2], longest[int(x.B)/2]) + 1
		}
		levels, e := graph.Levels(g)
		if e != api.OK || len(levels) != first+len(g.Ands) {
			t.Fatalf("%v: %d levels, error %d", g, len(levels), e)
		}
		for i, n := range levels {
			if n != longest[i] {
				t.Errorf("%v: node %d has level %d", g, i, n)
			}
		}
		want := 0
		for _, l := range rootsOf(g) {
			want = max(want, longest[int(l)/2])
		}
		if depth, e := graph.Depth(g); depth != want || e != api.OK {
			t.Errorf("%v: depth %d, not %d, error %d", g, depth, want, e)
		}
	}
}

// rootsOf returns the roots of a graph; it uses nothing of the program.
func rootsOf(g api.Graph) []api.Lit {
	var l []api.Lit
	l = append(l, g.Outs...)
	for _, r := range g.Regs {
		l = append(l, r.Next)
	}
	return l
}

// reached returns the nodes from which literals are computed, found from the roots on; it uses nothing of the program.
func reached(g api.Graph, roots []api.Lit) map[int]bool {
	found := map[int]bool{}
	work := slices.Clone(roots)
	for len(work) > 0 {
		n := int(work[0]) / 2
		work = work[1:]
		if i := n - 1 - len(g.In) - len(g.Regs); !found[n] && i >= 0 {
			work = append(work, g.Ands[i].A, g.Ands[i].B)
		}
		found[n] = true
	}
	return found
}

// P14.7
func TestCone(t *testing.T) {
	constant := api.Graph{In: []string{"a"}, Regs: []api.Reg{{Name: "r"}}, Ands: []api.Node{{A: 1, B: 4}, {A: 2, B: 3}}}
	for _, x := range []struct {
		g             api.Graph
		roots         []api.Lit
		cone, support []int
	}{
		{base(), nil, nil, nil},
		{base(), []api.Lit{0}, []int{0}, nil},
		{base(), []api.Lit{1, 0, 1}, []int{0}, nil},
		{base(), []api.Lit{3}, []int{1}, []int{1}},
		{base(), []api.Lit{9, 2}, []int{1, 4}, []int{1, 4}},
		{base(), []api.Lit{8, 4, 8, 5}, []int{2, 4}, []int{2, 4}},
		{base(), []api.Lit{10}, []int{1, 2, 5}, []int{1, 2}},
		{base(), []api.Lit{13}, []int{1, 2, 3, 5, 6}, []int{1, 2, 3}},
		{base(), []api.Lit{15, 0}, []int{0, 1, 2, 3, 4, 5, 6, 7}, []int{1, 2, 3, 4}},
		{constant, []api.Lit{6}, []int{0, 2, 3}, []int{2}},
		{constant, []api.Lit{9}, []int{1, 4}, []int{1}},
		{constant, []api.Lit{7, 8}, []int{0, 1, 2, 3, 4}, []int{1, 2}},
		{api.Graph{}, []api.Lit{1}, []int{0}, nil},
	} {
		cone, e := graph.Cone(x.g, x.roots)
		support, f := graph.Support(x.g, x.roots)
		if e != api.OK || f != api.OK || !slices.Equal(cone, x.cone) || !slices.Equal(support, x.support) {
			t.Errorf("%v: cone %v, support %v, errors %d and %d", x.roots, cone, support, e, f)
		}
	}
}

// P14.7
func TestConeOfRandomGraphs(t *testing.T) {
	r := rand.New(rand.NewSource(147))
	for range 300 {
		g := grown(r, "")
		first := 1 + len(g.In) + len(g.Regs)
		var roots []api.Lit
		for range r.Intn(4) {
			roots = append(roots, api.Lit(r.Intn(2*(first+len(g.Ands)))))
		}
		found := reached(g, roots)
		var wantCone, wantSupport []int
		for n := range first + len(g.Ands) {
			if found[n] {
				wantCone = append(wantCone, n)
				if n > 0 && n < first {
					wantSupport = append(wantSupport, n)
				}
			}
		}
		cone, e := graph.Cone(g, roots)
		support, f := graph.Support(g, roots)
		if e != api.OK || f != api.OK || !slices.Equal(cone, wantCone) || !slices.Equal(support, wantSupport) {
			t.Errorf("%v, %v: cone %v, support %v, errors %d and %d", g, roots, cone, support, e, f)
		}
	}
}

// P14.7
func TestConeErrors(t *testing.T) {
	invalid := base()
	invalid.In[0] = ""
	for _, x := range []struct {
		g     api.Graph
		roots []api.Lit
		e     api.Errno
	}{
		{base(), []api.Lit{15}, api.OK}, {base(), []api.Lit{16}, api.ErrRange}, {base(), []api.Lit{17}, api.ErrRange}, {base(), []api.Lit{-1}, api.ErrRange}, {base(), []api.Lit{-2}, api.ErrRange},
		{base(), []api.Lit{2, 4, 16}, api.ErrRange}, {base(), []api.Lit{math.MinInt, 2}, api.ErrRange}, {base(), []api.Lit{math.MaxInt, 2}, api.ErrRange},
		{api.Graph{}, []api.Lit{1}, api.OK}, {api.Graph{}, []api.Lit{2}, api.ErrRange},
		{invalid, []api.Lit{2}, api.ErrName}, {invalid, []api.Lit{-1}, api.ErrName}, {invalid, nil, api.ErrName},
	} {
		cone, e := graph.Cone(x.g, x.roots)
		support, f := graph.Support(x.g, x.roots)
		if e != x.e || f != x.e || e != api.OK && !blank(cone, support) {
			t.Errorf("%v: cone %v, support %v, errors %d and %d, not %d", x.roots, cone, support, e, f, x.e)
		}
	}
}
