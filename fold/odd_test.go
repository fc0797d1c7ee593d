package fold_test

import (
	"math"
	"math/rand"
	"reflect"
	"testing"

	"maskwright/api"
	"maskwright/fold"
	S "maskwright/syntax"
	"maskwright/width"
)

// size returns a number of any size.
func size(r *rand.Rand) int {
	return []int{math.MinInt64, -65, -1, 0, 1, 2, 3, 8, 63, 64, 65, 1 << 40, math.MaxInt64 - 1, math.MaxInt64}[r.Intn(14)]
}

// oddEnv returns an environment in which things do not fit together.
func oddEnv(r *rand.Rand) width.Env {
	e := env()
	for _, name := range []string{"K", "T", "P", "g", "g.k", "a", "m", "f"} {
		if r.Intn(2) > 0 {
			continue
		}
		x := width.Type{W: size(r), Lsb: size(r), Signed: r.Intn(2) > 0}
		x.Fields = []width.Field{{Name: "hi", At: size(r), Type: width.Type{W: size(r), Lsb: size(r)}}}
		e.Names[name] = width.Thing{
			Kind: r.Intn(6) - 1, Value: api.Bits{W: size(r), V: r.Uint64(), X: r.Uint64()}, Sig: size(r), Local: r.Intn(2) > 0,
			Type: x, Array: r.Intn(2) > 0, First: size(r), Elems: size(r), Args: make([]width.Type, r.Intn(3)),
		}
	}
	switch r.Intn(4) {
	case 0:
		e.Names = nil
	case 1:
		e.Funcs = []api.Func{{Args: size(r), Vars: make([]api.Signal, r.Intn(3))}}
	case 2:
		e.Funcs[0].Body = api.Stmt{Op: size(r), Args: []api.Expr{{Op: size(r)}}}
	}
	return e
}

// damage changes something in a tree, perhaps so that it is not valid.
func damage(r *rand.Rand, n *S.Node) {
	for len(n.Kids) > 0 && r.Intn(3) > 0 {
		n = &n.Kids[r.Intn(len(n.Kids))]
	}
	switch r.Intn(7) {
	case 0:
		n.Kind = r.Intn(S.Now+4) - 2
	case 1:
		n.Kind = S.Num + r.Intn(S.Now-S.Num+1)
	case 2:
		n.Name = []string{"", "K", "a", "m", "g", "f", "zz", "hi", "."}[r.Intn(9)]
	case 3:
		n.Num = api.Bits{W: r.Intn(70) - 2, V: r.Uint64() & r.Uint64(), X: r.Uint64() & r.Uint64()}
	case 4:
		n.Kids = append(n.Kids, S.Node{Kind: S.Name, Name: []string{"K", "a", "m", "zz"}[r.Intn(4)]})
	case 5:
		*n = S.Node{Kind: S.Cat, Kids: []S.Node{num(api.Bits{W: api.MaxWidth}, false), *n}}
	default:
		*n = S.Node{Kind: S.Name, Name: []string{"U", "a", "m", "g", "f", "zz"}[r.Intn(6)]}
	}
}

// P11.1 and Z1: trees in which something was changed: the error is that of syntax.CheckExpr, or else the code of width.Number, and with it there is nothing else.
func TestDamagedTrees(t *testing.T) {
	found := map[api.Errno]int{}
	trials(30000, func(g grower) {
		n := g.expr(1+g.Intn(5), true)
		for range 1 + g.Intn(3) {
			damage(g.Rand, &n)
		}
		b, signed, e := fold.Value(n, env())
		want := S.CheckExpr(n)
		var value api.Bits
		var sign bool
		if want == api.OK {
			var f width.Fault
			value, sign, f = width.Number(n, env())
			want = f.Code
		}
		if e != want || b != value || signed != sign || e != api.OK && (b != (api.Bits{}) || signed) {
			t.Fatalf("%v, %v, error %d, not %v, %v, %d: %+v", b, signed, e, value, sign, want, n)
		}
		found[e]++
		fold.Value(n, oddEnv(g.Rand))
	})
	for _, e := range []api.Errno{api.OK, api.ErrRange, api.ErrLarge, api.ErrForm, api.ErrNone, api.ErrType, api.ErrName, api.ErrConst} {
		if found[e] < 30 {
			t.Errorf("error %d came %d times", e, found[e])
		}
	}
}

// Z1: trees of 1000 levels, and of 100,000 nodes.
func TestLargeTrees(t *testing.T) {
	for kind := -1; kind <= S.Now+1; kind++ {
		refused(t, "levels", nested(kind, 1000), api.ErrLarge)
		wide := S.Node{Kind: kind, Kids: make([]S.Node, 99_999)}
		for i := range wide.Kids {
			wide.Kids[i] = num(vec("1"), false)
		}
		refused(t, "nodes", wide, api.ErrLarge)
	}
}

// clone returns a tree in new memory.
func clone(n S.Node) S.Node {
	kids := n.Kids
	n.Kids = nil
	for _, kid := range kids {
		n.Kids = append(n.Kids, clone(kid))
	}
	return n
}

// Z2: arguments are not changed, and the same call has the same result.
func TestArguments(t *testing.T) {
	e, same := env(), env()
	trials(2000, func(g grower) {
		n := g.expr(1+g.Intn(5), true)
		before := clone(n)
		b, signed, f := fold.Value(n, e)
		c, again, h := fold.Value(n, e)
		if b != c || signed != again || f != h {
			t.Fatalf("%v, then %v: %+v", b, c, n)
		}
		if !reflect.DeepEqual(n, before) || !reflect.DeepEqual(e, same) {
			t.Fatalf("arguments were changed: %+v", before)
		}
	})
}
