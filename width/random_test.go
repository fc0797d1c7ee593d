package width_test

import (
	"math/rand"
	"testing"

	"maskwright/api"
	"maskwright/bits"
	"maskwright/design"
	"maskwright/eval"
	S "maskwright/syntax"
	"maskwright/width"
)

// grower makes random trees without a fault.
type grower struct {
	*rand.Rand
	model
}

func (g grower) yes() bool { return g.Intn(2) == 0 }

// num returns a number, of which some states can be unknown.
func (g grower) num() S.Node {
	w := []int{1, 2, 3, 4, 5, 8, 32, 64}[g.Intn(8)]
	b := bits.Of(w, g.Uint64()>>g.Intn(64))
	if g.Intn(5) == 0 {
		b.X = bits.Of(w, g.Uint64()&g.Uint64()).V
	}
	return S.Node{Kind: S.Num, Num: b, Signed: g.yes()}
}

// constant returns a constant with a number.
func (g grower) constant(v int) S.Node {
	n := S.Node{Kind: S.Num, Num: bits.Of(32, uint64(v)), Signed: true}
	switch g.Intn(8) {
	case 0:
		if v >= 0 {
			n.Num, n.Signed = bits.Of(12, uint64(v)), false
		}
	case 1:
		one := S.Node{Kind: S.Name, Name: "k"}
		return S.Node{Kind: S.Sub, Kids: []S.Node{g.constant(v + 3), one}}
	case 2:
		return S.Node{Kind: S.Add, Kids: []S.Node{g.constant(v - 4), {Kind: S.Width, Kids: []S.Node{{Kind: S.Name, Name: "a"}}}}}
	}
	return n
}

// leaf returns a number or a whole signal, element or constant.
func (g grower) leaf() S.Node {
	if g.Intn(4) == 0 {
		return g.num()
	}
	names := []string{"a", "b", "c", "s", "l", "t", "y", "k", "u", "v", "w", "q", "g.x", "g.k", "m", "n", "g.m", "e", "a", "b", "c"}
	name := names[g.Intn(len(names))]
	n := S.Node{Kind: S.Name, Name: name}
	if len(name) > 2 {
		n = S.Node{Kind: S.Select, Name: name[2:], Kids: []S.Node{{Kind: S.Name, Name: "g"}}}
	}
	if p := g.place(n); p.array {
		return S.Node{Kind: S.Index, Kids: []S.Node{n, g.constant(p.thing.First + g.Intn(p.thing.Elems))}}
	}
	return n
}

// sound returns a node if it has no fault, and otherwise a leaf.
func (g grower) sound(n S.Node) S.Node {
	if guarded(func() { g.typ(n) }) != (width.Fault{}) {
		return g.leaf()
	}
	return n
}

// selected returns a place with some selections.
func (g grower) selected(depth int) S.Node {
	n := g.leaf()
	for n.Kind == S.Num {
		n = g.leaf()
	}
	if n.Kind == S.Index && g.yes() {
		n.Kids[1] = g.expr(depth - 1)
		n = g.sound(n)
	}
	for range g.Intn(4) {
		if n.Kind == S.Num {
			break
		}
		x := g.typ(n)
		lo := g.Intn(x.W)
		w := 1 + g.Intn(x.W-lo)
		from := g.constant(x.Lsb + lo)
		if g.Intn(3) == 0 {
			from = g.expr(depth - 1)
		}
		next := S.Node{Kind: S.Index, Kids: []S.Node{n, from}}
		switch k := g.Intn(4); {
		case len(x.Fields) > 0 && k > 0:
			next = S.Node{Kind: S.Select, Name: x.Fields[g.Intn(len(x.Fields))].Name, Kids: []S.Node{n}}
		case k == 1:
			next = S.Node{Kind: S.Slice, Kids: []S.Node{n, g.constant(x.Lsb + lo + w - 1), g.constant(x.Lsb + lo)}}
		case k == 2:
			next = S.Node{Kind: S.Part, Kids: []S.Node{n, from, g.constant(w)}}
		}
		if guarded(func() { g.typ(next) }) == (width.Fault{}) {
			n = next
		}
	}
	return n
}

// expr returns an expression.
func (g grower) expr(depth int) S.Node {
	if depth <= 0 {
		return g.leaf()
	}
	if g.Intn(4) == 0 {
		return g.selected(depth)
	}
	n := S.Node{Kind: S.Call + g.Intn(S.Now-S.Call+1)}
	kids := 2
	switch n.Kind {
	case S.Now:
		kids = 0
	case S.Plus, S.Neg, S.LNot, S.Not, S.RedAnd, S.RedOr, S.RedXor, S.Signed, S.Unsigned, S.Width:
		kids = 1
	case S.Log:
		return g.sound(S.Node{Kind: S.Log, Kids: []S.Node{g.constant(g.Intn(70))}})
	case S.Cond:
		kids = 3
	case S.Cat:
		kids = 1 + g.Intn(3)
	case S.Size, S.Rep:
		n.Kids = append(n.Kids, g.constant(1+g.Intn(12)))
		kids = 1
	case S.Call:
		n.Name = []string{"f", "h", "two"}[g.Intn(3)]
		kids = len(g.env.Names[n.Name].Args)
	}
	for range kids {
		n.Kids = append(n.Kids, g.expr(depth-1))
	}
	return g.sound(n)
}

// target returns a target, which can have a fault.
func (g grower) target(depth int) S.Node {
	if depth > 0 && g.Intn(3) == 0 {
		n := S.Node{Kind: S.Cat}
		for range 1 + g.Intn(5) {
			n.Kids = append(n.Kids, g.target(depth-1))
		}
		return n
	}
	n := g.selected(2)
	for n.Kind == S.Num {
		n = g.selected(2)
	}
	return n
}

// memory returns random states of all signals.
func (g grower) memory(d api.Design) (*memory, eval.State) {
	mem := &memory{sigs: map[[2]int]string{}, now: g.Uint64() >> g.Intn(64)}
	s := eval.State{Now: mem.now}
	for i, x := range d.Signals {
		var list []api.Bits
		for k := range x.Elems {
			b := bits.Of(x.W, g.Uint64()>>g.Intn(64))
			if g.Intn(6) == 0 {
				b.X = bits.Of(x.W, g.Uint64()&g.Uint64()).V
			}
			list = append(list, b)
			mem.sigs[[2]int{i, k}] = states(b)
		}
		s.Sigs = append(s.Sigs, list)
	}
	return mem, s
}

// places gives each node of a tree a place of its own.
func places(n S.Node, next *int) S.Node {
	*next++
	n.Line, n.Col = *next, *next%7
	n.Kids = append([]S.Node{}, n.Kids...)
	for i := range n.Kids {
		n.Kids[i] = places(n.Kids[i], next)
	}
	return n
}

// trials calls f with growers.
func trials(n int, f func(g grower)) {
	for seed := range int64(n) {
		f(grower{rand.New(rand.NewSource(seed)), model{env()}})
	}
}

// P10.1 to P10.4, P10.6: types and values against the model, as expressions, and as what they mean in states.
func TestAgainstModel(t *testing.T) {
	d := designOf(env())
	machine, err := eval.New(d)
	kinds, ops := map[int]int{}, map[int]int{}
	trials(12000, func(g grower) {
		n := g.expr(1 + g.Intn(4))
		S.Walk(n, func(n S.Node) bool { kinds[n.Kind]++; return true })
		mem, s := g.memory(d)
		x := g.typ(n)
		e, y, f := width.Own(n, env())
		if y.W != x.W || y.Signed != x.Signed || f != (width.Fault{}) {
			t.Fatalf("%+v, fault %+v, not %+v: %+v", y, f, x, n)
		}
		w := []int{1, 2, 3, 4, 5, 8, 9, 16, 64}[g.Intn(9)]
		to, f := width.Assigned(n, env(), w)
		for _, z := range []struct{ e, want api.Expr }{{e, g.value(n, x.W, x.Signed)}, {to, g.assigned(n, w)}} {
			if show(z.e) != show(z.want) || f != (width.Fault{}) {
				t.Fatalf("%s, fault %+v, not %s: %+v", show(z.e), f, show(z.want), n)
			}
			count(z.e, ops)
			b, err := machine.Value(s, z.e)
			want := trim(g.meaning(mem, n, max(z.e.W, x.W), x.Signed), z.e.W, x.Signed)
			if err != api.OK || !means(states(b), want, z.e.W < x.W) {
				t.Fatalf("%s, error %d, not %s: %s of %+v in %+v", states(b), err, want, show(z.e), n, s)
			}
		}
	})
	for kind := S.Num; kind <= S.Now; kind++ {
		if kinds[kind] < 50 {
			t.Errorf("kind %d came %d times", kind, kinds[kind])
		}
	}
	for kind := api.Const; kind <= api.Now; kind++ {
		if ops[kind] < 50 {
			t.Errorf("operation %s came %d times", opNames[kind], ops[kind])
		}
	}
	if err != api.OK {
		t.Error(err)
	}
}

// count counts the operations of an expression.
func count(e api.Expr, ops map[int]int) {
	ops[e.Op]++
	for _, kid := range e.Kids {
		count(kid, ops)
	}
}

// means reports whether states are those that were wanted; if upper bits were cut off, an x can be known, since it can have come from them.
func means(got, want string, cut bool) bool {
	if len(got) != len(want) {
		return false
	}
	for i := range got {
		if got[i] != want[i] && !(cut && want[i] == 'x') {
			return false
		}
	}
	return true
}

// P10.6: several expressions together, against the model.
func TestTogetherAgainstModel(t *testing.T) {
	trials(2000, func(g grower) {
		var l []S.Node
		w, signed := 0, true
		for range 1 + g.Intn(4) {
			n := g.expr(g.Intn(3))
			x := g.typ(n)
			w, signed = max(w, x.W), signed && x.Signed
			l = append(l, n)
		}
		values, f := width.Together(l, env())
		if len(values) != len(l) || f != (width.Fault{}) {
			t.Fatalf("%d values, fault %+v", len(values), f)
		}
		for i, e := range values {
			if want := show(g.value(l[i], w, signed)); show(e) != want {
				t.Fatalf("%s, not %s: %+v", show(e), want, l)
			}
		}
	})
}

// P10.5: constants against the model.
func TestNumbersAgainstModel(t *testing.T) {
	counts := map[api.Errno]int{}
	trials(12000, func(g grower) {
		next := 0
		n := places(g.expr(g.Intn(3)), &next)
		var want string
		fault := guarded(func() { want = g.known(n) })
		b, signed, f := width.Number(n, env())
		if f != fault || states(b) != want || signed != (g.typ(n).Signed && fault.Code == api.OK) {
			t.Fatalf("%s, %v, fault %+v, not %s, %+v: %+v", states(b), signed, f, want, fault, n)
		}
		lo, hi := g.Intn(9)-4, g.Intn(20)
		number := 0
		fault = guarded(func() { number = g.model.constant(n, lo, hi) })
		v, f := width.Int(n, env(), int64(lo), int64(hi))
		if v != int64(number) || f != fault {
			t.Fatalf("%d, fault %+v, not %d, %+v: %+v", v, f, number, fault, n)
		}
		counts[f.Code]++
	})
	for _, e := range []api.Errno{api.OK, api.ErrRange, api.ErrConst} {
		if counts[e] < 50 {
			t.Errorf("error %d came %d times", e, counts[e])
		}
	}
}

// P10.7: targets against the model; those without a fault can be set in a design.
func TestTargetsAgainstModel(t *testing.T) {
	d := designOf(env())
	counts := map[api.Errno]int{}
	trials(9000, func(g grower) {
		next := 0
		n := places(g.target(2), &next)
		var want api.Expr
		fault := guarded(func() { want = g.model.target(n) })
		if fault.Code != api.OK {
			want = api.Expr{}
		}
		e, f := width.Target(n, env())
		counts[f.Code]++
		if f != fault || show(e) != show(want) {
			t.Fatalf("%s, fault %+v, not %s, %+v: %+v", show(e), f, show(want), fault, n)
		}
		if f.Code == api.OK {
			set := api.Stmt{Op: api.Set, To: e, Args: []api.Expr{{Op: api.Resize, W: e.W, Kids: []api.Expr{num(1, 1)}}}}
			if err := design.CheckStmt(d, set, false); err != api.OK {
				t.Fatalf("error %d of a Set of %s", err, show(e))
			}
		}
	})
	for _, e := range []api.Errno{api.OK, api.ErrType, api.ErrLarge} {
		if counts[e] < 20 {
			t.Errorf("error %d came %d times", e, counts[e])
		}
	}
}

// nodes returns pointers to all nodes of a tree.
func nodes(n *S.Node) []*S.Node {
	list := []*S.Node{n}
	for i := range n.Kids {
		list = append(list, nodes(&n.Kids[i])...)
	}
	return list
}

// damage changes something in a random node of a tree.
func (g grower) damage(n *S.Node) {
	all := nodes(n)
	x := all[g.Intn(len(all))]
	names := []string{"zz", "m", "g", "f", "h", "a", "k", "u", "hi", "lo", "x", "no"}
	switch g.Intn(5) {
	case 0:
		*x = S.Node{Kind: S.Name, Name: names[g.Intn(len(names))]}
	case 1:
		*x = g.constant([]int{-1, 0, 1, 3, 5, 8, 63, 64, 65, 99}[g.Intn(10)])
	case 2:
		if x.Name != "" {
			x.Name = names[g.Intn(len(names))]
		}
	case 3:
		if len(x.Kids) > 0 {
			k := g.Intn(len(x.Kids))
			x.Kids[k] = g.expr(1)
		}
	case 4:
		if x.Kind == S.Call || x.Kind == S.Name && g.Intn(9) == 0 {
			x.Kind = S.Call
			x.Kids = append(x.Kids, g.expr(1))
		}
	}
}

// P10.1, P10.3, P10.7: faults of trees in which something was changed, with their places, against the model.
func TestFaultsAgainstModel(t *testing.T) {
	counts := map[api.Errno]int{}
	trials(25000, func(g grower) {
		n := g.expr(1 + g.Intn(3))
		if g.yes() {
			n = g.target(2)
		}
		for range 1 + g.Intn(3) {
			g.damage(&n)
		}
		next := 0
		n = places(n, &next)
		if S.CheckExpr(n) != api.OK {
			return
		}
		fault := guarded(func() { g.typ(n) })
		e, x, f := width.Own(n, env())
		if f != fault || fault.Code != api.OK && (!none(e) || x.W != 0 || x.Signed) {
			t.Fatalf("%+v, fault %+v, not %+v: %+v", x, f, fault, n)
		}
		counts[f.Code]++
		if n.Kind < S.Name || n.Kind > S.Part {
			return
		}
		fault = guarded(func() { g.model.target(n) })
		if e, f := width.Target(n, env()); f != fault || fault.Code != api.OK && !none(e) {
			t.Fatalf("target: fault %+v, not %+v: %+v", f, fault, n)
		}
	})
	for _, e := range []api.Errno{api.OK, api.ErrNone, api.ErrType, api.ErrForm, api.ErrConst, api.ErrRange, api.ErrLarge} {
		if counts[e] < 50 {
			t.Errorf("error %d came %d times", e, counts[e])
		}
	}
}
