package design

import (
	"slices"
	"testing"

	"maskwright/api"
)

// Signals of the base design.
const (
	sigA = iota // In, 4 bits
	sigC        // In, 1 bit
	sigW        // wire, 4 bits
	sigV        // variable, 4 bits
	sigM        // variable, 3 elements of 4 bits
	sigQ        // Out, variable, 8 bits
	sigO        // Out, wire, 1 bit
	sigB        // wire, 2 elements of 4 bits
	sigT        // variable, 64 bits
)

func ref(sig, w int) api.Expr { return api.Expr{Op: api.Ref, W: w, Sig: sig} }

func local(sig, w int) api.Expr { return api.Expr{Op: api.Ref, W: w, Sig: sig, Local: true} }

func elem(sig, w int, k api.Expr) api.Expr {
	return api.Expr{Op: api.Elem, W: w, Sig: sig, Kids: []api.Expr{k}}
}

func num(w int, v uint64) api.Expr {
	return api.Expr{Op: api.Const, W: w, N: api.Bits{W: w, V: v}}
}

func signed(e api.Expr) api.Expr {
	e.Signed = true
	return e
}

func op(op, w int, kids ...api.Expr) api.Expr { return api.Expr{Op: op, W: w, Kids: kids} }

func at(op, w, at int, kids ...api.Expr) api.Expr {
	return api.Expr{Op: op, W: w, At: at, Kids: kids}
}

func set(to, e api.Expr) api.Stmt { return api.Stmt{Op: api.Set, To: to, Args: []api.Expr{e}} }

func put(to, e api.Expr) api.Stmt { return api.Stmt{Op: api.Put, To: to, Args: []api.Expr{e}} }

func block(kids ...api.Stmt) api.Stmt { return api.Stmt{Op: api.Block, Kids: kids} }

func with(op int, args ...api.Expr) api.Stmt { return api.Stmt{Op: op, Args: args} }

func holds(e api.Expr) api.Temporal { return api.Temporal{E: e} }

// base returns a valid design, in new memory.
func base() api.Design {
	return api.Design{
		Name: "top",
		Signals: []api.Signal{
			{Name: "a", Port: api.In, W: 4, Elems: 1},
			{Name: "c", Port: api.In, W: 1, Elems: 1},
			{Name: "u.w", W: 4, Elems: 1},
			{Name: "v", Kind: api.Var, W: 4, Elems: 1, Signed: true, Init: []api.Bits{{W: 4, V: 9}}},
			{Name: "m", Kind: api.Var, W: 4, Elems: 3},
			{Name: "q", Port: api.Out, Kind: api.Var, W: 8, Elems: 1},
			{Name: "o", Port: api.Out, W: 1, Elems: 1},
			{Name: "b", W: 4, Elems: 2},
			{Name: "t", Kind: api.Var, W: 64, Elems: 1},
		},
		Funcs: []api.Func{
			{Name: "f", Args: 1, Vars: []api.Signal{
				{Name: "x", Kind: api.Var, W: 4, Elems: 1},
				{Name: "f", Kind: api.Var, W: 4, Elems: 1},
				{Name: "z", Kind: api.Var, W: 4, Elems: 2},
			}, Body: set(local(1, 4), op(api.Not, 4, local(0, 4)))},
			{Name: "g", Args: 2, Vars: []api.Signal{
				{Name: "x", Kind: api.Var, W: 4, Elems: 1},
				{Name: "y", Kind: api.Var, W: 2, Elems: 1},
				{Name: "g", Kind: api.Var, W: 8, Elems: 1},
			}, Body: block(set(at(api.Slice, 4, 4, local(2, 8)), at(api.Call, 4, 0, local(0, 4))), set(at(api.Slice, 4, 0, local(2, 8)), num(4, 0)))},
		},
		Procs: []api.Proc{
			{Name: "p0", Kind: api.Cont, Body: set(ref(sigW, 4), ref(sigA, 4))},
			{Name: "p1", Kind: api.Comb, Body: block(set(ref(sigV, 4), ref(sigW, 4)))},
			{Name: "p2", Kind: api.Seq, Edges: []api.Edge{{Kind: api.Rise, Sig: sigC}}, Body: block(put(ref(sigQ, 8), at(api.Call, 8, 1, ref(sigA, 4), num(2, 1))))},
			{Name: "p3", Kind: api.Always, Body: block(with(api.Delay, num(4, 3)))},
			{Name: "p4", Kind: api.Initial, Body: block(with(api.Stop))},
		},
		Props: []api.Prop{
			{Name: "s0", Clock: sigC, From: holds(ref(sigC, 1)), To: api.Temporal{Op: api.Then, Hi: 2, Kids: []api.Temporal{holds(ref(sigA, 4)), holds(ref(sigW, 4))}}},
			{Name: "s1", Clock: sigC, From: holds(num(1, 1)), To: holds(num(1, 1))},
		},
	}
}

// Kinds of processes, as indices of those of the base design.
func kindsOf() []int {
	return []int{api.Cont, api.Comb, api.Seq, api.Always, api.Initial}
}

// body returns the base design in which a process of a kind has a body.
func body(kind int, s api.Stmt) api.Design {
	d := base()
	d.Procs[kind].Body = s
	return d
}

// value returns the base design in which an initial process has a value of an expression.
func value(e api.Expr) api.Design {
	return body(api.Initial, with(api.Until, e))
}

// inFunc returns the base design in which the second function has a body.
func inFunc(s api.Stmt) api.Design {
	d := base()
	d.Funcs[1].Body = s
	return d
}

// row is a design and what Check returns for it.
type row struct {
	what string
	d    api.Design
	want api.Errno
}

// checkRows checks designs.
func checkRows(t *testing.T, rows []row) {
	t.Helper()
	for _, r := range rows {
		if got := Check(r.d); got != r.want {
			t.Errorf("%s: %d, not %d", r.what, got, r.want)
		}
	}
}

// fault is a change of the base design that Check refuses.
type fault struct {
	what   string
	change func(d *api.Design)
	want   api.Errno
}

// checkFaults checks that each fault is found, and that of two of them the first one is returned.
func checkFaults(t *testing.T, base func() api.Design, list []fault) {
	t.Helper()
	if e := Check(base()); e != api.OK {
		t.Fatalf("the base has the error %d", e)
	}
	for i, x := range list {
		d := base()
		x.change(&d)
		if e := Check(d); e != x.want {
			t.Errorf("%s: %d, not %d", x.what, e, x.want)
		}
		for _, y := range list[i+1:] {
			d := base()
			y.change(&d)
			x.change(&d)
			if e := Check(d); e != x.want {
				t.Errorf("%s, and %s: %d, not %d", x.what, y.what, e, x.want)
			}
		}
	}
}

// repeat returns a list of n equal elements.
func repeat[T any](n int, x T) []T {
	return slices.Repeat([]T{x}, n)
}
