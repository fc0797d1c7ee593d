package walk_test

import (
	"fmt"
	"strings"
	"testing"

	"maskwright/api"
	"maskwright/walk"
)

func ref(sig, w int) api.Expr { return api.Expr{Op: api.Ref, W: w, Sig: sig} }

func elem(sig, w int, k api.Expr) api.Expr {
	return api.Expr{Op: api.Elem, W: w, Sig: sig, Kids: []api.Expr{k}}
}

func op(op, w int, kids ...api.Expr) api.Expr { return api.Expr{Op: op, W: w, Kids: kids} }

func slice(w, at int, e api.Expr) api.Expr {
	return api.Expr{Op: api.Slice, W: w, At: at, Kids: []api.Expr{e}}
}

func num(w int, v uint64) api.Expr {
	return api.Expr{Op: api.Const, W: w, N: api.Bits{W: w, V: v}}
}

// noted returns what f tells of expressions: the numbers of signals, and # and the operation of all others.
func noted(f func(visit func(api.Expr))) string {
	var list []string
	f(func(e api.Expr) {
		switch e.Op {
		case api.Ref, api.Elem:
			list = append(list, fmt.Sprint(e.Sig))
		default:
			list = append(list, fmt.Sprint("#", e.Op))
		}
	})
	return strings.Join(list, " ")
}

// Statements, and the expressions of each, in the order in which they stand.
func TestParts(t *testing.T) {
	s := api.Stmt{Op: api.Block, Kids: []api.Stmt{
		{Op: api.If, Line: 1, Kids: []api.Stmt{{Line: 2}, {Line: 3}}},
		{Op: api.Case, Line: 4, Items: []api.Item{{Do: api.Stmt{Op: api.Block, Line: 5, Kids: []api.Stmt{{Line: 6}}}}, {Do: api.Stmt{Line: 7}}}},
		{Line: 8},
	}}
	n := 0
	walk.Stmts(s, func(s api.Stmt) {
		if s.Line != n {
			t.Error(s.Line, n)
		}
		n++
	})
	if n != 9 {
		t.Error(n)
	}
	e := op(api.Add, 4, ref(1, 4), slice(4, 0, elem(2, 8, ref(3, 2))))
	if got := noted(func(f func(api.Expr)) { walk.Exprs(e, f) }); got != fmt.Sprintf("#%d 1 #%d 2 3", api.Add, api.Slice) {
		t.Error(got)
	}
	q := api.Temporal{Op: api.Then, Kids: []api.Temporal{{E: ref(1, 1)}, {Op: api.Either, Kids: []api.Temporal{{E: op(api.Not, 1, ref(9, 1))}, {E: ref(2, 1)}}}}}
	if got := noted(func(f func(api.Expr)) { walk.Sequence(q, f) }); got != fmt.Sprintf("1 #%d 2", api.Not) {
		t.Error(got)
	}
}

// The places of targets, and those that statements and expressions read.
func TestPlaces(t *testing.T) {
	to := op(api.Cat, 9, ref(1, 1), op(api.Cat, 4, op(api.Part, 4, elem(2, 8, ref(3, 2)), ref(4, 2))), slice(4, 1, elem(5, 8, op(api.Not, 1, ref(6, 1)))))
	for o, name := range []string{api.Nop: "nop", api.Set: "set", api.Put: "put"} {
		s := api.Stmt{Op: o, To: to, Args: []api.Expr{op(api.Cat, 9, slice(4, 0, ref(7, 8)), elem(8, 5, slice(2, 0, ref(9, 3)))), num(1, 0)}}
		targets, reads := fmt.Sprintf("1 #%d #%d", api.Part, api.Slice), fmt.Sprintf("#%d 8 #%d 3 4 6", api.Slice, api.Slice)
		if name == "nop" || name == "" {
			targets, reads = "", strings.TrimSuffix(reads, " 3 4 6")
		}
		if walk.Assigns(s) != (targets != "") {
			t.Error(o)
		}
		if got := noted(func(f func(api.Expr)) { walk.Targets(s, f) }); got != targets {
			t.Errorf("%d: %s, not %s", o, got, targets)
		}
		if got := noted(func(f func(api.Expr)) { walk.Reads(s, f) }); got != reads {
			t.Errorf("%d: %s, not %s", o, got, reads)
		}
	}
	s := api.Stmt{Op: api.Case, Args: []api.Expr{ref(1, 1)}, Items: []api.Item{{Match: []api.Expr{ref(2, 1), num(1, 0), op(api.Not, 1, ref(3, 1))}, Do: api.Stmt{Op: api.If, Args: []api.Expr{ref(4, 1)}}}, {Match: []api.Expr{ref(5, 1)}}}}
	if got := noted(func(f func(api.Expr)) { walk.Reads(s, f) }); got != "1 2 3 5" {
		t.Error(got)
	}
	// A piece of a piece is no place, but the piece in it is.
	e := slice(1, 0, op(api.Part, 2, slice(4, 0, ref(1, 8)), elem(2, 2, ref(3, 1))))
	if got := noted(func(f func(api.Expr)) { walk.Places(e, f) }); got != fmt.Sprintf("#%d 2 3", api.Slice) {
		t.Error(got)
	}
}

// Which expressions are places, of what, and which indices they have.
func TestWhole(t *testing.T) {
	k, at := ref(3, 2), ref(4, 2)
	for _, x := range []struct {
		e       api.Expr
		sig     int // -1: no place
		indices string
	}{
		{ref(1, 4), 1, ""},
		{elem(2, 4, k), 2, "3"},
		{slice(1, 0, ref(1, 4)), 1, ""},
		{slice(1, 0, elem(2, 4, k)), 2, "3"},
		{op(api.Part, 1, ref(1, 4), at), 1, "4"},
		{op(api.Part, 1, elem(2, 4, k), at), 2, "3 4"},
		{slice(1, 0, slice(2, 0, ref(1, 4))), -1, ""},
		{slice(1, 0, num(4, 0)), -1, ""},
		{num(4, 0), -1, ""},
		{op(api.Not, 4, ref(1, 4)), -1, ""},
	} {
		whole, ok := walk.Whole(x.e)
		if ok != (x.sig >= 0) || ok && whole.Sig != x.sig {
			t.Errorf("%v: %v, %v", x.e, whole, ok)
		}
		if !ok {
			continue
		}
		if got := noted(func(f func(api.Expr)) {
			for _, e := range walk.Indices(x.e) {
				f(e)
			}
		}); got != x.indices {
			t.Errorf("%v: indices %s", x.e, got)
		}
	}
}

// The bits that places name.
func TestNamed(t *testing.T) {
	signals := []api.Signal{{W: 8, Elems: 1}, {W: 4, Elems: 3}, {W: 64, Elems: 1}}
	some := api.Expr{W: 2, N: api.Bits{W: 2, V: 1, X: 2}}
	minus := func(n uint64) api.Expr { return api.Expr{W: 4, Signed: true, N: api.Bits{W: 4, V: 16 - n}} }
	for _, x := range []struct {
		e    api.Expr
		want string
	}{
		{ref(0, 8), "0.0:ff"},
		{ref(2, 64), "2.0:ffffffffffffffff"},
		{slice(3, 2, ref(0, 8)), "0.0:1c"},
		{elem(1, 4, num(2, 1)), "1.1:f"},
		{elem(1, 4, num(2, 3)), ""},
		{elem(1, 4, num(64, 1<<63)), ""},
		{elem(1, 4, minus(1)), ""},
		{elem(1, 4, some), "1.0:f 1.1:f 1.2:f"},
		{elem(1, 4, ref(0, 8)), "1.0:f 1.1:f 1.2:f"},
		{op(api.Part, 3, ref(0, 8), num(4, 6)), "0.0:c0"},
		{op(api.Part, 3, ref(0, 8), num(4, 8)), ""},
		{op(api.Part, 3, ref(0, 8), minus(1)), "0.0:3"},
		{op(api.Part, 3, ref(0, 8), minus(3)), ""},
		{op(api.Part, 3, ref(0, 8), some), "0.0:ff"},
		{op(api.Part, 1, ref(2, 64), num(7, 63)), "2.0:8000000000000000"},
		{op(api.Part, 1, ref(2, 64), num(7, 64)), ""},
		{op(api.Part, 2, elem(1, 4, some), num(2, 3)), "1.0:8 1.1:8 1.2:8"},
	} {
		var list []string
		walk.Named(signals, x.e, func(sig, elem int, mask uint64) { list = append(list, fmt.Sprintf("%d.%d:%x", sig, elem, mask)) })
		if got := strings.Join(list, " "); got != x.want {
			t.Errorf("%v: %s, not %s", x.e, got, x.want)
		}
	}
}
