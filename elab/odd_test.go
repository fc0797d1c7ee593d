package elab_test

import (
	"fmt"
	"math"
	"math/rand"
	"reflect"
	"slices"
	"strings"
	"testing"

	"maskwright/api"
	"maskwright/bits"
	"maskwright/design"
	"maskwright/elab"
	"maskwright/note"
	"maskwright/prep"
	S "maskwright/syntax"
)

// clone returns a tree in new memory.
func clone(n S.Node) S.Node {
	kids := n.Kids
	n.Kids = nil
	for _, kid := range kids {
		n.Kids = append(n.Kids, clone(kid))
	}
	return n
}

// cloneFile returns a file in new memory.
func cloneFile(f S.File) S.File {
	return S.File{Items: clone(S.Node{Kids: f.Items}).Kids, Lines: slices.Clone(f.Lines)}
}

// nodes returns all nodes of a file.
func nodes(f S.File) []*S.Node {
	var all []*S.Node
	var visit func(list []S.Node)
	visit = func(list []S.Node) {
		for i := range list {
			all = append(all, &list[i])
			visit(list[i].Kids)
		}
	}
	visit(f.Items)
	return all
}

// damage changes something in a file; with valid alone, the kinds of places that the tree has stay what they are.
func damage(r *rand.Rand, f S.File, valid bool) {
	all := nodes(f)
	n, other := all[r.Intn(len(all))], all[r.Intn(len(all))]
	switch r.Intn(7) {
	case 0:
		for i := 0; i < 50 && (n.Name == "" || other.Name == ""); i++ {
			n, other = all[r.Intn(len(all))], all[r.Intn(len(all))]
		}
		n.Name = other.Name
	case 1, 2:
		for i := 0; i < 50 && n.Kind != other.Kind; i++ {
			other = all[r.Intn(len(all))]
		}
		if n.Kind == other.Kind {
			*n = clone(*other)
		}
	case 3:
		if n.Kind >= S.Num {
			w := 1 + r.Intn(64)
			*n = S.Node{Kind: S.Num, Num: bits.Of(w, r.Uint64()>>r.Intn(64)), Signed: r.Intn(2) > 0, Line: n.Line, Col: n.Col}
		}
	case 4:
		if len(n.Kids) > 1 {
			i, k := r.Intn(len(n.Kids)), r.Intn(len(n.Kids))
			n.Kids[i], n.Kids[k] = n.Kids[k], n.Kids[i]
		}
	case 5:
		if len(n.Kids) > 1 && !valid {
			n.Kids = n.Kids[:len(n.Kids)-1]
		}
	default:
		if !valid {
			n.Kind = r.Intn(S.Now + 1)
		}
	}
}

// checked checks all that is promised of any result.
func checked(t *testing.T, f S.File, params map[string]int64) api.Errno {
	t.Helper()
	d, l, e := elab.Design(f, "top", params)
	if want := S.Check(f); want != api.OK && (e != want || len(l) > 0) {
		t.Fatalf("error %d, %v, not %d: %v", e, l, want, f.Items)
	}
	switch {
	case e == api.OK && (len(l) > 0 || design.Check(d) != api.OK || d.Name != "top"):
		t.Fatalf("%v, %d: %v", l, design.Check(d), f.Items)
	case e != api.OK && (!empty(d) || len(l) > 1):
		t.Fatalf("%v, %v: %v", d, l, f.Items)
	}
	for _, n := range l {
		if n.Code != e || note.Check(n) != api.OK {
			t.Fatalf("%v, error %d: %v", n, e, f.Items)
		}
	}
	return e
}

// Z1, Z3, P12.14, P12.16: sources in which something was changed.
func TestDamagedSources(t *testing.T) {
	found := map[api.Errno]int{}
	for seed := range int64(1500) {
		r := rand.New(rand.NewSource(seed))
		f := tree(t, source(seed))
		for range 6 {
			g := cloneFile(f)
			for range 1 + r.Intn(3) {
				damage(r, g, r.Intn(3) > 0)
			}
			var params map[string]int64
			if r.Intn(4) == 0 {
				params = map[string]int64{[]string{"a", "b", "c", "d"}[r.Intn(4)]: []int64{0, 1, -1, math.MaxInt64, math.MinInt64, r.Int63()}[r.Intn(6)]}
			}
			if r.Intn(8) == 0 {
				g.Lines = []prep.Origin{{File: "x", Line: r.Intn(5) - 2}, {File: []string{"y", "", ":"}[r.Intn(3)], Line: r.Intn(1 << 20)}}
			}
			found[checked(t, g, params)]++
		}
	}
	for _, e := range []api.Errno{api.OK, api.ErrRange, api.ErrForm, api.ErrTwice, api.ErrNone, api.ErrType, api.ErrConst} {
		if found[e] < 15 {
			t.Errorf("error %d came %d times", e, found[e])
		}
	}
}

// Z1: trees of 1000 levels, and of 100,000 nodes.
func TestLargeTrees(t *testing.T) {
	for kind := -1; kind <= S.Now+1; kind++ {
		n := S.Node{Kind: kind}
		for range 999 {
			n = S.Node{Kind: kind, Kids: []S.Node{n}}
		}
		refused(t, "levels", S.File{Items: []S.Node{n}}, "top", nil, api.ErrLarge)
		refused(t, "nodes", S.File{Items: []S.Node{{Kind: kind, Kids: make([]S.Node, 99_999)}}}, "top", nil, api.ErrLarge)
		refused(t, "items", S.File{Items: make([]S.Node, 100_000), Lines: make([]prep.Origin, 100_000)}, "top", nil, api.ErrLarge)
	}
}

// Z1: as much work as there can be comes to an end.
func TestMuchWork(t *testing.T) {
	for _, s := range []string{
		"module m () { " + strings.Repeat("inst #: m (); ", 900) + " } module top () { inst u: m (); }",
		"module top #(n = 0) () { " + times(60, "inst u#: top #(n = n + 1) ();") + " }",
		"module top (in x) { for (i = 0 to 63) : a { for (j = 0 to 63) : b { for (k = 0 to 63) : c { } } } }",
		"module top () { initial " + strings.Repeat("for (i = 0 to 63) ", 50) + "; }",
		"module m #(" + list(900, "p# = 1") + ") () { } module top () { for (i = 0 to 63) : a { for (j = 0 to 61) : b { inst u: m (); } } }",
		"function f() { " + strings.Repeat("f = 1; ", 900) + "} module top () { for (i = 0 to 63) : a { for (j = 0 to 63) : b { const c = f(); } } }",
	} {
		s = strings.ReplaceAll(s, "#:", "u:")
		d, l, e := elab.Text(map[string]string{"a": s}, "a", "top", nil)
		if e == api.OK || !empty(d) {
			t.Errorf("%s: %v, error %d", short(s), l, e)
		}
	}
}

// memory finds slices of a value that share memory, with their spare capacity.
type memory []struct{ from, to uintptr }

// add adds the memory of all slices of a value.
func (m *memory) add(v reflect.Value) {
	switch v.Kind() {
	case reflect.Slice:
		if size := v.Type().Elem().Size(); v.Cap() > 0 && size > 0 {
			*m = append(*m, struct{ from, to uintptr }{v.Pointer(), v.Pointer() + uintptr(v.Cap())*size})
		}
		for i := range v.Len() {
			m.add(v.Index(i))
		}
	case reflect.Struct:
		for i := range v.NumField() {
			m.add(v.Field(i))
		}
	}
}

// shares reports whether some of the memory belongs to two slices.
func (m memory) shares() bool {
	slices.SortFunc(m, func(a, b struct{ from, to uintptr }) int { return int(a.from) - int(b.from) })
	for i := range m {
		if i > 0 && m[i].from < m[i-1].to {
			return true
		}
	}
	return false
}

// Z2: arguments are not changed, the same call has the same result, and no two slices of results and arguments share memory.
func TestMemory(t *testing.T) {
	for seed := range int64(400) {
		s := source(seed)
		f := tree(t, s)
		if seed%8 == 0 {
			f = tree(t, linedText)
		}
		before := cloneFile(f)
		params := map[string]int64{}
		d, _, e := elab.Design(f, "top", params)
		c, _, again := elab.Design(f, "top", nil)
		if e != again || !reflect.DeepEqual(d, c) || !S.SameFile(f, before) || !slices.Equal(f.Lines, before.Lines) || len(params) > 0 {
			t.Fatal(seed, e, again)
		}
		var m memory
		for _, x := range []any{f, d, c} {
			m.add(reflect.ValueOf(x))
		}
		if m.shares() {
			t.Fatal(seed, s)
		}
	}
}

// unnamed returns the lines of a design in which all parts have numbers for names.
func unnamed(d api.Design) string {
	for i := range d.Signals {
		d.Signals[i].Name = fmt.Sprint("s", i)
	}
	for i := range d.Procs {
		d.Procs[i].Name = fmt.Sprint("p", i)
	}
	for i := range d.Props {
		d.Props[i].Name = fmt.Sprint("q", i)
	}
	for i, f := range d.Funcs {
		d.Funcs[i].Name = fmt.Sprint("f", i)
		for k := range f.Vars {
			f.Vars[k].Name = fmt.Sprint("v", k)
		}
	}
	return strings.Join(write(d), "\n")
}

// P12.16: a design does not depend on the names of blocks, functions and instances but in names, and so on no names.
func TestNamesDoNotMatter(t *testing.T) {
	good := 0
	for seed := range int64(1200) {
		f := tree(t, source(seed))
		d, _, e := elab.Design(f, "top", nil)
		if e != api.OK {
			continue
		}
		good++
		want := unnamed(d)
		blocks, all := cloneFile(f), cloneFile(f)
		for i, n := range nodes(blocks) {
			switch {
			case n.Kind == S.GenFor || n.Kind == S.GenIf || n.Kind == S.GenElse || n.Kind == S.Inst:
				n.Name = fmt.Sprint("_", i)
			case strings.HasPrefix(n.Name, "F"): // functions, and nothing else
				n.Name = "|" + n.Name
			}
		}
		for _, n := range nodes(all) {
			if n.Name != "" && n.Name != "top" {
				n.Name = "z" + n.Name + "@"
			}
		}
		for _, g := range []S.File{blocks, all} {
			d, l, e := elab.Design(g, "top", nil)
			if e != api.OK {
				t.Fatal(seed, l, e)
			}
			if got := unnamed(d); got != want {
				t.Fatalf("%d: %s\nnot\n%s", seed, got, want)
			}
		}
	}
	if good < 700 {
		t.Error(good)
	}
}
