package design

import (
	"slices"
	"testing"

	"maskwright/api"
)

// chain returns an expression of one bit with a depth, and as many nodes.
func chain(depth int) api.Expr {
	e := num(1, 1)
	for range depth - 1 {
		e = op(api.Not, 1, e)
	}
	return e
}

// nested returns a statement with a depth, and as many nodes.
func nested(depth int) api.Stmt {
	s := api.Stmt{}
	for range depth - 1 {
		s = block(s)
	}
	return s
}

// wide returns an expression of one bit with a number of nodes that is not too deep.
func wide(nodes int) api.Expr {
	return op(api.LNot, 1, op(api.Resize, 1, op(api.Cat, 64, append(repeat(63, num(1, 0)), rest(nodes-66))...)))
}

// rest returns an expression of one bit with a number of nodes.
func rest(nodes int) api.Expr {
	if nodes < api.MaxDeep-20 {
		return chain(nodes)
	}
	half := (nodes - 1) / 2
	return op(api.LAnd, 1, rest(half), rest(nodes-1-half))
}

// P8.2: the parts of an expression, a statement and a sequence that are measured.
func TestMeasures(t *testing.T) {
	m := scale{50, 700}
	e, deep := num(1, 0), chain(7)
	check := func(what string, got, want size) {
		t.Helper()
		if got != want {
			t.Errorf("%s: %v, not %v", what, got, want)
		}
	}
	check("constant", m.expr(e), size{1, 1, 1})
	check("kids", m.expr(op(api.Cat, 4, e, deep, e)), size{10, 8, 10})
	check("call", m.expr(at(api.Call, 4, 1, e, deep)), size{9, 8, 709})
	check("call of a call", m.expr(at(api.Call, 4, 1, at(api.Call, 4, 0))), size{2, 2, 752})
	check("call of no function", m.expr(at(api.Call, 4, 2)), size{1, 1, 1})
	check("call of function -1", m.expr(at(api.Call, 4, -1)), size{1, 1, 1})
	check("no call", m.expr(at(api.Slice, 4, 1, e)), size{2, 2, 2})
	check("nop", m.stmt(api.Stmt{}), size{1, 1, 1})
	check("nop with a target", m.stmt(api.Stmt{To: deep}), size{1, 1, 1})
	check("set", m.stmt(set(deep, e)), size{9, 8, 9})
	check("put", m.stmt(put(e, deep)), size{9, 8, 9})
	check("set with two Args", m.stmt(api.Stmt{Op: api.Set, Args: []api.Expr{e, at(api.Call, 1, 0)}}), size{4, 2, 54})
	check("kids of a statement", m.stmt(block(api.Stmt{}, nested(5), set(e, e))), size{10, 6, 10})
	check("edges and text", m.stmt(api.Stmt{Op: api.On, Text: "abc", Edges: make([]api.Edge, 5)}), size{1, 1, 1})
	items := []api.Item{{Match: []api.Expr{e, deep, e}, Do: nested(3)}, {Do: nested(9)}}
	check("items", m.stmt(api.Stmt{Op: api.Case, Args: []api.Expr{e}, Items: items}), size{23, 10, 23})
	check("match", m.stmt(api.Stmt{Op: api.Case, Items: items[:1]}), size{13, 8, 13})
	check("holds", m.sequence(holds(deep)), size{8, 8, 8})
	check("holds without an expression", m.sequence(api.Temporal{}), size{2, 2, 2})
	check("sequence of nothing", m.sequence(api.Temporal{Op: api.Both, E: deep}), size{1, 1, 1})
	kids := []api.Temporal{holds(e), {Op: api.Both, E: deep, Kids: []api.Temporal{holds(at(api.Call, 1, 0))}}}
	check("kids of a sequence", m.sequence(api.Temporal{Op: api.Then, E: deep, Kids: kids}), size{6, 4, 56})
}

// P8.3: a body or a sequence can be so deep, and not deeper.
func TestDepths(t *testing.T) {
	for n, want := range map[int]api.Errno{1: api.OK, 20: api.OK, api.MaxDeep: api.OK, api.MaxDeep + 1: api.ErrLarge, 900: api.ErrLarge} {
		from, to := base(), base()
		if n > 1 {
			from.Props[0].From = holds(chain(n - 1))
			to.Props[1].To = holds(chain(n - 1))
		}
		checkRows(t, []row{
			{"function", inFunc(nested(n)), want}, {"process", body(api.Comb, nested(n)), want}, {"last process", body(api.Initial, nested(n)), want},
			{"From", from, want}, {"To", to, want},
		})
		if e := CheckExpr(base(), chain(n)); e != want {
			t.Errorf("CheckExpr with depth %d: %d", n, e)
		}
		if e := CheckStmt(base(), nested(n), true); e != want {
			t.Errorf("CheckStmt with depth %d: %d", n, e)
		}
	}
}

// nodesOf returns the number of nodes of a design.
func nodesOf(d api.Design) int {
	n := 0
	for _, s := range trees(d) {
		n += s.nodes
	}
	return n
}

// P8.3: all bodies and sequences together can have so many nodes, and not more.
func TestNodes(t *testing.T) {
	for _, grow := range []func(d *api.Design, e api.Expr){
		func(d *api.Design, e api.Expr) { d.Funcs[1].Body.Kids[0].Args[0] = op(api.Resize, 4, e) },
		func(d *api.Design, e api.Expr) { d.Procs[0].Body.Args[0] = op(api.Resize, 4, e) },
		func(d *api.Design, e api.Expr) { d.Procs[4].Body.Kids[0] = with(api.Check, e) },
		func(d *api.Design, e api.Expr) { d.Props[0].From.E = e },
		func(d *api.Design, e api.Expr) { d.Props[0].To.Kids[1].E = e },
	} {
		empty := base()
		grow(&empty, num(1, 0))
		spare := api.MaxTree - nodesOf(empty) + 1
		for more, want := range map[int]api.Errno{0: api.OK, 1: api.ErrLarge, 500: api.ErrLarge} {
			d := base()
			grow(&d, wide(spare+more))
			if n := nodesOf(d); n != api.MaxTree+more {
				t.Fatalf("%d nodes", n)
			}
			checkRows(t, []row{{"nodes", d, want}})
		}
	}
	for more, want := range map[int]api.Errno{0: api.OK, 1: api.ErrLarge, 90_000: api.ErrLarge} {
		if e := CheckExpr(base(), wide(api.MaxTree+more)); e != want {
			t.Errorf("CheckExpr with %d more nodes: %d", more, e)
		}
		if e := CheckStmt(base(), with(api.Until, wide(api.MaxTree-1+more)), true); e != want {
			t.Errorf("CheckStmt with %d more nodes: %d", more, e)
		}
	}
}

// towers adds functions without arguments to a design, of which each one calls the one before it several times.
func towers(d *api.Design, levels, calls int) {
	for i := range levels {
		list := []api.Stmt{set(local(0, 1), num(1, 0))}
		if i > 0 {
			list = repeat(calls, set(local(0, 1), at(api.Call, 1, len(d.Funcs)-1)))
		}
		d.Funcs = append(d.Funcs, api.Func{Name: "t" + string(rune('a'+i)), Vars: []api.Signal{{Name: "r", Kind: api.Var, W: 1, Elems: 1}}, Body: block(list...)})
	}
}

// P8.10: the weights of functions and processes.
func TestWeights(t *testing.T) {
	d := base()
	towers(&d, 3, 5)
	// The body of f is a Set, a Ref, a Not and a Ref: 4. That of g is a Block, two Sets with Slices of Refs, a Call of f with a Ref, and a constant.
	if got := Funcs(d); !slices.Equal(got, []int{4, 1 + 3 + 2 + 4 + 3 + 1, 4, 1 + 5*(3+4), 1 + 5*(3+36)}) {
		t.Errorf("Funcs: %v", got)
	}
	d.Procs[3].Body = with(api.Until, at(api.Call, 1, 4))
	for i, want := range []int{3, 4, 1 + 1 + 1 + 1 + 2 + 14, 2 + 196, 2} {
		if got := Weight(d, i); got != want {
			t.Errorf("Weight of process %d: %d, not %d", i, got, want)
		}
	}
	for _, i := range []int{-1, 5, 1 << 60, -1 << 63} {
		if got := Weight(d, i); got != 0 {
			t.Errorf("Weight of process %d: %d", i, got)
		}
	}
	if got := Funcs(api.Design{}); len(got) != 0 {
		t.Error(got)
	}
}

// P8.3, P8.9: the weight of a function, a process or a property can be so great, and not greater.
func TestGreatestWeights(t *testing.T) {
	// A body of 1 + 7*(3+4) = 50, one of 1 + 7*(3+50) = 372, and one of 1 + 7*(3+372) = 2626 make up the greatest weight.
	checks := func(weight int) []api.Stmt {
		var list []api.Stmt
		for weight > 2628 {
			list = append(list, with(api.Until, at(api.Call, 1, 5)))
			weight -= 2628
		}
		return append(list, repeat(weight, api.Stmt{})...)
	}
	for more, want := range map[int]api.Errno{-1: api.OK, 0: api.OK, 1: api.ErrLarge, 2000: api.ErrLarge} {
		d := base()
		towers(&d, 4, 7)
		if got := Funcs(d)[5]; got != 2626 {
			t.Fatal(got)
		}
		s := block(checks(api.MaxWeight - 1 + more)...)
		if e := CheckStmt(d, s, true); e != want {
			t.Errorf("CheckStmt with %d more: %d", more, e)
		}
		d.Procs[4].Body = s
		checkRows(t, []row{{"process", d, want}})
		if got := Weight(d, 4); want == api.OK && got != api.MaxWeight+more {
			t.Errorf("Weight: %d", got)
		}
	}
	for more, want := range map[int]api.Errno{0: api.OK, 1: api.ErrLarge} {
		d := base()
		towers(&d, 4, 7)
		calls := repeat(7, at(api.Call, 1, 5))
		fill := api.MaxWeight - 7*2627 - 1 + more
		e := op(api.Cat, 8, append(calls, wide(fill))...)
		if got := CheckExpr(d, e); got != want {
			t.Errorf("CheckExpr with %d more: %d", more, got)
		}
		from, to := 1+7*2627+1, fill-1
		d.Props[0].From, d.Props[0].To = holds(op(api.Cat, 7, calls...)), holds(wide(to-1))
		if got := scale(Funcs(d)).sequence(d.Props[0].From).weight; got != from {
			t.Fatal(got)
		}
		checkRows(t, []row{{"property", d, want}})
	}
	for more, want := range map[int]api.Errno{0: api.OK, 1: api.ErrLarge} {
		d := base()
		towers(&d, 4, 7)
		d.Funcs[5].Body = block(append(repeat(53, set(local(0, 1), at(api.Call, 1, 4))), repeat(api.MaxWeight-1-53*375+more, api.Stmt{})...)...)
		checkRows(t, []row{{"function", d, want}})
		if got := Funcs(d)[5]; want == api.OK && got != api.MaxWeight {
			t.Errorf("Funcs: %d", got)
		}
	}
}

// P8.3: weights that no number of 64 bits holds.
func TestEnormousWeights(t *testing.T) {
	for _, calls := range []int{20, 30} {
		d := base()
		towers(&d, 14, calls)
		checkRows(t, []row{{"functions", d, api.ErrLarge}})
		if e := CheckExpr(d, op(api.Cat, 2, repeat(2, at(api.Call, 1, 15))...)); e != api.ErrLarge {
			t.Error(e)
		}
		if e := CheckStmt(d, with(api.Until, at(api.Call, 1, 15)), true); e != api.ErrLarge {
			t.Error(e)
		}
		if got := Funcs(d); slices.Min(got) < 1 {
			t.Error(got)
		}
		d.Funcs = d.Funcs[:5]
		d.Procs[3].Body = with(api.Until, op(api.Cat, 60, repeat(60, at(api.Call, 1, 4))...))
		checkRows(t, []row{{"process", d, api.ErrLarge}})
	}
}

// P8.10: in a design that is not valid, calls of functions that do not come before count nothing.
func TestCircles(t *testing.T) {
	d := base()
	d.Funcs[0].Body.Args[0] = at(api.Call, 4, 0, at(api.Call, 4, 1))
	if got := Funcs(d); !slices.Equal(got, []int{4, 14}) {
		t.Error(got)
	}
}
