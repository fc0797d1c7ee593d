package width_test

import (
	"math"
	"math/rand"
	"reflect"
	"testing"

	"maskwright/api"
	S "maskwright/syntax"
	"maskwright/width"
)

// odd returns a tree of any form.
func odd(r *rand.Rand, depth int) S.Node {
	names := append([]string{"", "k", "u", "f", "h", "g", "h.x", "zz", "hi", "odd", "row", "call"}, signals...)
	n := S.Node{Kind: r.Intn(S.Now+4) - 2, Line: r.Intn(4) - 1, Col: r.Intn(4) - 1, Signed: r.Intn(2) > 0}
	if r.Intn(4) > 0 {
		n.Kind = S.Num + r.Intn(S.Now-S.Num+1)
	}
	n.Name = names[r.Intn(len(names))]
	n.Num = api.Bits{W: r.Intn(70) - 2, V: r.Uint64(), X: r.Uint64() & r.Uint64()}
	if r.Intn(2) > 0 {
		n.Num = api.Bits{W: 4, V: uint64(r.Intn(5))}
	}
	for range r.Intn(4) {
		if depth > 0 {
			n.Kids = append(n.Kids, odd(r, depth-1))
		}
	}
	return n
}

// number returns a number of any size.
func number(r *rand.Rand) int {
	return []int{math.MinInt64, -65, -1, 0, 1, 2, 3, 8, 63, 64, 65, 100, 1 << 40, math.MaxInt64 - 1, math.MaxInt64}[r.Intn(15)]
}

// oddType returns a type of any form.
func oddType(r *rand.Rand, depth int) width.Type {
	x := width.Type{W: number(r), Lsb: number(r), Signed: r.Intn(2) > 0}
	for range min(depth, r.Intn(3)) {
		x.Fields = append(x.Fields, width.Field{Name: []string{"", "hi", "x"}[r.Intn(3)], At: number(r), Type: oddType(r, depth-1)})
	}
	return x
}

// oddEnv returns an environment in which things do not fit together.
func oddEnv(r *rand.Rand) width.Env {
	e := env()
	for _, name := range []string{"odd", "row", "call", "k", "a", "h", "g"} {
		e.Names[name] = width.Thing{
			Kind: r.Intn(6) - 1, Value: api.Bits{W: number(r), V: r.Uint64(), X: r.Uint64()}, Sig: number(r), Local: r.Intn(2) > 0,
			Type: oddType(r, 2), Array: r.Intn(2) > 0, First: number(r), Elems: number(r), Args: make([]width.Type, r.Intn(3)),
		}
	}
	switch r.Intn(4) {
	case 0:
		e.Names = nil
	case 1:
		e.Funcs = append(e.Funcs, api.Func{Args: -1, Vars: make([]api.Signal, r.Intn(3))})
	case 2:
		e.Funcs[r.Intn(4)].Body = api.Stmt{Op: number(r), Args: []api.Expr{{Op: number(r)}}}
	}
	return e
}

// callAll calls all functions.
func callAll(n S.Node, e width.Env, w int) {
	width.Own(n, e)
	width.Assigned(n, e, w)
	width.Together([]S.Node{n, {}, n}, e)
	width.Together(n.Kids, e)
	width.Target(n, e)
	width.Number(n, e)
	width.Int(n, e, int64(-w), int64(w))
	width.Root(n)
}

// Z1: all functions return, for any tree, environment and width.
func TestOddArguments(t *testing.T) {
	r := rand.New(rand.NewSource(1))
	for range 60000 {
		callAll(odd(r, 4), oddEnv(r), number(r))
	}
	for kind := -1; kind <= S.Now+1; kind++ {
		for _, name := range []string{"a", "m", "k", "g", "f", "h", "zz"} {
			for kids := range 5 {
				n := S.Node{Kind: kind, Name: name}
				for range kids {
					n.Kids = append(n.Kids, S.Node{Kind: S.Name, Name: "a"})
				}
				callAll(n, env(), 8)
			}
		}
	}
}

// Z1: trees of 1000 levels, of each kind with kids.
func TestDeepTrees(t *testing.T) {
	for kind := S.Name; kind < S.Now; kind++ {
		n := node(t, "a")
		for range 999 {
			n = S.Node{Kind: kind, Name: "f", Kids: []S.Node{n}}
			switch kind {
			case S.Size, S.Rep:
				n.Kids = []S.Node{node(t, "1"), n.Kids[0]}
			case S.Slice, S.Part:
				n.Kids = append(n.Kids, node(t, "1"), node(t, "1"))
			case S.Cond:
				n.Kids = append(n.Kids, node(t, "a"), node(t, "b"))
			case S.Index, S.Mul, S.Div, S.Mod, S.Add, S.Sub, S.Shl, S.Shr, S.Sar, S.Lt, S.Le, S.Gt, S.Ge, S.Eq, S.Ne, S.CaseEq, S.CaseNe, S.And, S.Xor, S.Or, S.LAnd, S.LOr:
				n.Kids = append(n.Kids, node(t, "b"))
			}
		}
		callAll(n, env(), 3)
	}
	n := node(t, "k")
	for range 999 { // constants within constants
		n = S.Node{Kind: S.Index, Kids: []S.Node{node(t, "t"), n}}
		n = S.Node{Kind: S.Width, Kids: []S.Node{n}}
		n = S.Node{Kind: S.Size, Kids: []S.Node{n, {Kind: S.Log, Kids: []S.Node{n}}}}
		if _, depth := S.Measure(n); depth > 24 {
			break
		}
	}
	callAll(n, env(), 3)
}

// Z2: arguments are not changed, and results share no memory with them, or with each other.
func TestMemory(t *testing.T) {
	e, same := env(), env()
	for _, s := range []string{"m[a + b]", "b[a +: 3]", "cat(a, m[a], s.hi[2], f(a + 1))", "y.p.hi[2]", "b[6:2][1]", "rep(2, size(3, a + b)) + (a ? b : c)", "n[a].p.lo > m[c]"} {
		n := node(t, s)
		for range 2 {
			x, _, f := width.Own(n, e)
			before := show(x)
			y, _ := width.Assigned(n, e, 3)
			l, _ := width.Together([]S.Node{n, n}, e)
			first := show(l[1])
			spoil(&y)
			spoil(&l[0])
			if f != (width.Fault{}) || show(x) != before || show(l[1]) != first {
				t.Errorf("%s: results share memory", s)
			}
			spoil(&x)
			spoil(&l[1])
			if to, f := width.Target(n, e); f == (width.Fault{}) {
				spoil(&to)
			}
			if !S.Same(n, node(t, s)) || !reflect.DeepEqual(e, same) {
				t.Fatalf("%s: arguments were changed", s)
			}
		}
	}
}

// kidLists calls f for the list of the kids of each node of an expression.
func kidLists(e api.Expr, f func([]api.Expr)) {
	if len(e.Kids) > 0 {
		f(e.Kids)
	}
	for _, kid := range e.Kids {
		kidLists(kid, f)
	}
}

// Z2: no two lists of a result share memory.
func TestMemoryWithin(t *testing.T) {
	for _, s := range []string{"m[a + b] + m[a + b]", "(a > b) + (b > a)", "cat(y.p.hi, y.p.hi[2], y.p)", "b[m[a]][0] ? b[m[a]] : -b", "m[c] - m[c]", "rep(2, b >>> a)"} {
		x, f := width.Assigned(node(t, s), env(), 2)
		seen := map[*api.Expr]bool{}
		kidLists(x, func(l []api.Expr) {
			if seen[&l[0]] {
				t.Errorf("%s: memory is shared in %s", s, show(x))
			}
			seen[&l[0]] = true
		})
		if f != (width.Fault{}) || len(seen) == 0 {
			t.Error(s, f)
		}
	}
}
