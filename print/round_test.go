package print_test

import (
	"math/rand"
	"reflect"
	"slices"
	"strings"
	"testing"

	"maskwright/api"
	"maskwright/parse"
	"maskwright/prep"
	"maskwright/print"
	"maskwright/syntax"
)

// source is a source without directives of the file f.
func source(text string) prep.Source {
	s := prep.Source{Text: text}
	for i := range strings.Count(text, "\n") + 1 {
		s.Lines = append(s.Lines, prep.Origin{File: "f", Line: i + 1, Whole: true})
	}
	return s
}

// count adds the kinds of a tree.
func count(kinds map[int]int, n syntax.Node) {
	syntax.Walk(n, func(n syntax.Node) bool { kinds[n.Kind]++; return true })
}

// often tests that all kinds from the first one on were seen.
func often(t *testing.T, kinds map[int]int, first, times int) {
	t.Helper()
	for k := first; k < len(rows); k++ {
		if kinds[k] < times {
			t.Error("only", kinds[k], "times kind", k)
		}
	}
}

// P7.1 to P7.4 for random files: the text is that of the model, and is read as the same tree.
func TestRandomFiles(t *testing.T) {
	r := rand.New(rand.NewSource(1))
	kinds := map[int]int{}
	large := 0
	for range 2500 {
		n := grow(r, 'F', 1+r.Intn(12))
		kept := copyOf(n)
		want, code := modelPrint(n.Kids)
		s, e := print.File(syntax.File{Items: n.Kids})
		if e != code || s != want {
			t.Fatalf("%v\n%s\ninstead of %v\n%s", e, s, code, want)
		}
		if !syntax.Same(n, kept) {
			t.Fatalf("changed:\n%s", s)
		}
		if e == api.ErrLarge {
			large++
		}
		if e != api.OK {
			continue
		}
		f, l, e := parse.File(source(s))
		if e != api.OK || len(l) > 0 || !syntax.SameFile(f, syntax.File{Items: n.Kids}) {
			t.Fatalf("%v %v\n%s", e, l, s)
		}
		count(kinds, n)
	}
	often(t, kinds, syntax.Whole, 10)
	if large < 10 {
		t.Error("only", large, "large files")
	}
}

// The same for random expressions.
func TestRandomExpressions(t *testing.T) {
	r := rand.New(rand.NewSource(2))
	kinds := map[int]int{}
	for range 8000 {
		n := grow(r, 'E', 1+r.Intn(7))
		want := modelText(n, 0)
		if len(want) > api.MaxText || syntax.CheckExpr(n) != api.OK {
			continue
		}
		s, e := print.Expr(n)
		if e != api.OK || s != want {
			t.Fatalf("%v\n%s\ninstead of\n%s", e, s, want)
		}
		m, e := parse.Expr(s)
		if e != api.OK || !syntax.Same(m, n) {
			t.Fatalf("%v %s", e, s)
		}
		count(kinds, n)
	}
	often(t, kinds, syntax.Num, 200)
}

// P7.4: trees with the same text are the same.
func TestDifferentTexts(t *testing.T) {
	r := rand.New(rand.NewSource(3))
	trees := map[string]syntax.Node{}
	again := 0
	for range 30000 {
		n := grow(r, 'E', r.Intn(3))
		s, e := print.Expr(n)
		if e != api.OK {
			t.Fatal(e)
		}
		m, ok := trees[s]
		if ok && !syntax.Same(m, n) {
			t.Fatalf("%s: %+v %+v", s, m, n)
		}
		if ok {
			again++
		}
		trees[s] = n
	}
	if again < 1000 || len(trees) < 10000 {
		t.Error(again, len(trees))
	}
}

// Z1, Z2: whatever the tree is, the text of a tree that is not valid is empty, and trees are not changed.
func TestSpoiledTrees(t *testing.T) {
	r := rand.New(rand.NewSource(4))
	seen := map[api.Errno]int{}
	for range 6000 {
		n := grow(r, "FE"[r.Intn(2)], r.Intn(6))
		for range 1 + r.Intn(3) {
			spoil(r, &n)
		}
		n = copyOf(n)
		kept := copyOf(n)
		want, code := modelPrint(n.Kids)
		s, e := print.File(syntax.File{Items: n.Kids})
		if e != code || s != want {
			t.Fatalf("%v\n%s\ninstead of %v\n%s", e, s, code, want)
		}
		seen[e]++
		want, code = "", syntax.CheckExpr(n)
		if code == api.OK {
			want = modelText(n, 0)
		}
		s, e = print.Expr(n)
		if len(want) <= api.MaxText && (e != code || s != want) {
			t.Fatalf("%v\n%s\ninstead of %v\n%s", e, s, code, want)
		}
		seen[e]++
		if !reflect.DeepEqual(whole(n), whole(kept)) {
			t.Fatal("changed")
		}
	}
	for _, e := range []api.Errno{api.OK, api.ErrRange, api.ErrType, api.ErrForm, api.ErrName} {
		if seen[e] < 50 {
			t.Error("only", seen[e], "times", e)
		}
	}
}

// whole returns a tree with all that is in the memory behind its kids.
func whole(n syntax.Node) syntax.Node {
	n.Kids = slices.Clone(n.Kids[:cap(n.Kids)])
	for i := range n.Kids {
		n.Kids[i] = whole(n.Kids[i])
	}
	return n
}
