package machine_test

import (
	"testing"

	"maskwright/api"
	"maskwright/machine"
)

// The example of the chapter.
func TestExample(t *testing.T) {
	check(t, []row{{members: "var [1:0] s = 0; seq (rise clk) if (a) s <= 1; else s <= 0;", want: "s p1 [a] [0 1] [0>0:0 0>1:1 1>0:0 1>1:1]"}})
}

// P16.1: how many elements and bits the register of a machine has.
func TestSizes(t *testing.T) {
	checkNames(t, []row{
		{members: "var s = 0; seq (rise clk) s <= a ? 1 : 0;", want: ""},
		{members: "var s = 0; seq (rise clk) s <= 1;", want: "s"},
		{members: "var [4:0] s = 9; seq (rise clk) s <= 1;", want: "s"},
		{members: "var [5:0] s = 9; seq (rise clk) s <= 1;", want: ""},
		{members: "var [63:0] s = 9; seq (rise clk) s <= 1;", want: ""},
		{members: "var s [0:1] = 0; seq (rise clk) s[0] <= 1;", want: ""},
		{members: "var s [0:0] = 0; seq (rise clk) s[0] <= 1;", want: ""},
		// Of one element it can be read as an array.
		{members: "var s [0:0] = 0; seq (rise clk) if (!s[0]) s[0] <= 1;", want: "s", change: func(d *api.Design) {
			d.Procs[1].Body.Kids[0].To = ref(7, 1)
		}},
	})
	check(t, []row{
		// An output can be the register, and what no Seq process drives cannot.
		{members: "wire w; assign w = a; var v; comb v = 1; function [1:0] f(a) { f = 2; }", want: ""},
		{members: "", want: ""},
	})
	d := built(t, "module top (in clk, out var [1:0] q = 2) { seq (rise clk) q <= 3; }")
	if got := found(t, d); got != "q p0 [] [2 3] [2>3:0 3>3:0]" {
		t.Error(got)
	}
}

// P16.1: what the Puts of a machine are.
func TestPuts(t *testing.T) {
	checkNames(t, []row{
		// Targets.
		{members: "var [1:0] s = 0; seq (rise clk) s[0] <= 1;", want: ""},
		{members: "var [1:0] s = 0; seq (rise clk) s[1:0] <= 1;", want: ""},
		{members: "var [1:0] s = 0; seq (rise clk) s[a] <= 1;", want: ""},
		{members: "var [1:0] s = 0; seq (rise clk) s <= 1;", want: "", change: func(d *api.Design) {
			d.Procs[1].Body.To = op(api.Part, 2, ref(7, 2), num(1, 0))
		}},
		{members: "var [1:0] s = 0, t = 0; seq (rise clk) cat(s, t) <= 5;", want: ""},
		{members: "var [1:0] s = 0; seq (rise clk) cat(s) <= 1;", want: ""},
		{members: "var [1:0] s = 0, t = 0; seq (rise clk) { cat(s, t[0]) <= 5; t <= 1; }", want: ""},
		{members: "var [1:0] s = 0, t = 0; seq (rise clk) { cat(t[0], cat(t[1])) <= 2; s <= 1; }", want: "s"},
		{members: "var [1:0] s = 0, t = 0; seq (rise clk) { s <= 2; if (a) cat(t[0], cat(t[1], s)) <= 2; }", want: ""},
		{members: "var [1:0] s = 0; seq (rise clk) { s <= 2; case (y) { 1: ; default: if (a) ; else { s[1] <= 1; } } s <= 3; }", want: ""},
		// An index of a target names nothing.
		{members: "var [1:0] s = 0; var t [0:3] = 0; seq (rise clk) { t[s] <= a; s <= 1; }", want: "s"},
		// Values.
		{members: "var [1:0] s = 0; seq (rise clk) s <= y;", want: ""},
		{members: "var [1:0] s = 0; seq (rise clk) s <= s;", want: ""},
		{members: "var [1:0] s = 0; seq (rise clk) s <= ~2'd1;", want: ""},
		{members: "var [1:0] s = 0; seq (rise clk) s <= cat(2'd1);", want: ""},
		{members: "var [1:0] s = 0; seq (rise clk) { s <= 1; if (a) s <= 2; else s <= b; }", want: ""},
		{members: "var [1:0] s = 0; seq (rise clk) { s <= b; s <= 1; }", want: ""},
		{members: "const C = 6; enum [1:0] e { A, B = 3 } var e s = A; seq (rise clk) { s <= C; s <= B; s <= 8'd7; s <= 2'sb10; }", want: "s"},
		// What is put into other registers does not matter.
		{members: "var [1:0] s = 0, t = 0; seq (rise clk) { s <= 1; t <= s + 1; t[0] <= b; }", want: "s"},
		{members: "var [1:0] s = 0, t = 0; seq (rise clk) { s <= 1; t <= s; } var [9:0] u = 0; seq (rise clk) u <= s;", want: "s"},
	})
}

// P16.1: which bits are free, and how many there can be.
func TestFree(t *testing.T) {
	check(t, []row{
		{members: "var s = 0; seq (rise clk) { if (y[2]) s <= 1; if (x[7:6] == 1) s <= 0; if (b) ; if (x[1]) ; }", want: "s p1 [b x[1] x[6] x[7] y[2]] [0 1] [0>0:0 0>1:16 1>0:4 1>1:0]"},
		// Elements, and bits that places with indices name.
		{members: "wire [1:0] w [0:2]; assign w[0] = x; assign w[1] = y; assign w[2] = 0; var s = 0; seq (rise clk) if (w[1][0] == w[0][1]) s <= 1;", want: "s p4 [w[0][1] w[1][0]] [0 1] [0>0:1 0>1:0 1>1:0]"},
		{members: "wire w [0:3]; assign w[0] = a; assign w[1] = a; assign w[2] = b; assign w[3] = 0; var s = 0; seq (rise clk) if (w[y[1:0]]) s <= 1;", want: "s p5 [y[0] y[1] w[0] w[1] w[2] w[3]] [0 1] [0>0:0 0>1:4 1>1:0]"},
		{members: "var s = 0; seq (rise clk) if (y[x[4:3]]) s <= 1;", want: "s p1 [x[3] x[4] y[0] y[1] y[2] y[3]] [0 1] [0>0:0 0>1:4 1>1:0]"},
		{members: "var s = 0; seq (rise clk) if (y[2:1] == 3) s <= 1;", want: "s p1 [y[1] y[2]] [0 1] [0>0:0 0>1:3 1>1:0]", change: func(d *api.Design) {
			d.Procs[1].Body.Args[0].Kids[0].Kids[0] = op(api.Part, 2, ref(5, 4), num(3, 1))
		}},
		// The register itself, the clock and temporaries are bound; the reset and other registers are not.
		{members: "var [1:0] s = 0; seq (rise clk) case (s) { 0: s <= 2; 1: s <= 0; 2: s <= 1; }", want: "s p1 [] [0 2 1] [0>2:0 2>1:0 1>0:0]"},
		{members: "var [1:0] s = 0; var t; seq (rise clk) { t = a; if (t) s <= 1; }", want: "s p1 [a] [0 1] [0>0:0 0>1:1 1>1:0]"},
		{members: "var s = 0; var [1:0] t [0:1]; seq (rise clk) { t[0] = x[1:0]; t[1][0] = t[0][1]; cat(t[1][1]) = t[1][0]; if (t[1][1]) s <= 1; }", want: "s p1 [x[0] x[1]] [0 1] [0>0:0 0>1:2 1>1:0]"},
		{members: "var s = 0; seq (rise clk, rise rst) if (rst) s <= 0; else s <= 1;", want: "s p1 [rst] [0 1] [0>0:1 0>1:0 1>0:1 1>1:0]"},
		{members: "var s = 0; seq (rise clk, fall rst) if (!rst) s <= 0; else s <= 1;", want: "s p1 [rst] [0 1] [0>0:0 0>1:1 1>0:0 1>1:1]"},
		{members: "var s = 0; var [1:0] t = 0; seq (rise clk) t <= t + 1; seq (rise clk) if (t == 2) s <= 1;", want: "s p2 [t[0] t[1]] [0 1] [0>0:0 0>1:2 1>1:0]"},
		{members: "var s = 0, t = 0; seq (rise clk) { if (a) s <= t; if (s) t <= b; else t <= 1; }", want: ""},
		{members: "var s = 0, t = 0; seq (rise clk) { if (a) s <= 1; else if (t) s <= 0; if (s) t <= 1; }", want: "s p1 [a t] [0 1] [0>0:0 0>1:1 1>0:2 1>1:0]; t p1 [a s] [0 1] [0>0:0 0>1:2 1>1:0]"},
		// What a process reads counts even if nothing depends on it, and so do indices of targets.
		{members: "var s = 0; seq (rise clk) { s <= 1; if (y[3]) ; }", want: "s p1 [y[3]] [0 1] [0>1:0 1>1:0]"},
		{members: "var s = 0; var t [0:1] = 0; seq (rise clk) { s <= 1; t[y[1]] <= 1; }", want: "s p1 [y[1]] [0 1] [0>1:0 1>1:0]"},
		{members: "var s = 0; seq (rise clk) case (a) { b: s <= 1; 1: s <= 0; }", want: "s p1 [a b] [0 1] [0>0:1 0>1:0 1>0:1 1>1:0]"},
	})
	checkNames(t, []row{
		{members: "var s = 0; seq (rise clk) if (x == 9) s <= 1;", want: "s"},
		{members: "var s = 0; seq (rise clk) if (x == 9) s <= a; else if (b) s <= 1;", want: ""},
		{members: "var s = 0; seq (rise clk) { if (x == 9) s <= 1; if (a) ; }", want: ""},
		{members: "var s = 0; seq (rise clk) { if (x[7:1] == 9) s <= 1; if (a) ; }", want: "s"},
		{members: "var s = 0; seq (rise clk, rise rst) if (rst) s <= 0; else if (x == 9) s <= 1;", want: ""},
		{members: "var s = 0; seq (rise clk, rise rst) if (rst) s <= 0; else if (x[6:0] == 9) s <= 1;", want: "s"},
		{members: "var [4:0] s = 0; var [8:0] t; seq (rise clk) { t = x; if (t == 9 && s < 7) s <= 1; }", want: "s"},
		{members: "var [7:0] t = 0; var [4:0] s = 0; seq (rise clk) { t <= t + 1; if (t == 9) s <= 1; }", want: "s"},
		{members: "var [8:0] t = 0; var [4:0] s = 0; seq (rise clk) { t <= t + 1; if (t == 9) s <= 1; }", want: ""},
		{members: "var [4:0] t = 0, s = 0, u = 0; seq (rise clk) { if (t == 9) s <= 1; if (s[1:0] == 0) t <= 3; if (u[2:0] == 1) u <= 2; }", want: "t s u"},
		{members: "var [4:0] t = 0, s = 0, u = 0; seq (rise clk) { if (t == 9) s <= 1; if (s == 0) t <= 3; if (u[2:0] == 1) u <= 2; }", want: "t s"},
		// Each process has its own.
		{members: "var s = 0, t = 0; seq (rise clk) if (x == 9) s <= 1; seq (rise clk) if (y == 9) t <= 1;", want: "s t"},
	})
}

// P16.2: states and edges.
func TestStates(t *testing.T) {
	check(t, []row{
		// The first state is the Init; it stays if nothing is put, and of several Puts the last one counts.
		{members: "var [1:0] s = 2; seq (rise clk) if (a) s <= 3;", want: "s p1 [a] [2 3] [2>2:0 2>3:1 3>3:0]"},
		{members: "var [1:0] s = 2; seq (rise clk) ;", want: ""},
		{members: "var [1:0] s = 2; seq (rise clk) if (0) s <= 1;", want: "s p1 [] [2] [2>2:0]"},
		{members: "var [1:0] s = 0; seq (rise clk) { s <= 1; if (a) s <= 2; }", want: "s p1 [a] [0 1 2] [0>1:0 0>2:1 1>1:0 1>2:1 2>1:0 2>2:1]"},
		{members: "var [1:0] s = 0; seq (rise clk) { if (a) s <= 2; s <= 1; }", want: "s p1 [a] [0 1] [0>1:0 1>1:0]"},
		{members: "var [1:0] s = 0; seq (rise clk) { if (a) s <= 2; if (b) s <= 0; }", want: "s p1 [a b] [0 2] [0>0:0 0>2:1 2>0:2 2>2:0]"},
		{members: "var [1:0] s = 0, t = 0; seq (rise clk) { t <= 3; if (a) s <= 1; t <= 2; }", want: "s p1 [a] [0 1] [0>0:0 0>1:1 1>1:0]; t p1 [a] [0 2] [0>2:0 2>2:0]"},
		// What is found first by the free bits is not what comes first.
		{members: "var [1:0] s = 0; seq (rise clk) case (y[1:0]) { 0: s <= 3; 1: s <= 2; 2: s <= 1; default: ; }", want: "s p1 [y[0] y[1]] [0 1 2 3] [0>0:3 0>1:2 0>2:1 0>3:0 1>1:2 1>2:1 1>3:0 2>1:2 2>2:1 2>3:0 3>1:2 3>2:1 3>3:0]"},
		{members: "var [2:0] s = 4; seq (rise clk) case (s) { 4: if (a) s <= 7; else s <= 6; 6: s <= 1; 7: s <= 0; 1: s <= 5; default: s <= 4; }", want: "s p1 [a] [4 6 7 1 0 5] [4>6:0 4>7:1 6>1:0 7>0:0 1>5:0 0>4:0 5>4:0]"},
		// What is not reached is no state.
		{members: "var [1:0] s = 1; seq (rise clk) case (s) { 0: s <= 3; 1: s <= 2; 2: if (a) s <= 1; 3: s <= 0; }", want: "s p1 [a] [1 2] [1>2:0 2>1:1 2>2:0]"},
		{members: "var [1:0] s = 1; seq (rise clk) if (a && !a) s <= 3;", want: "s p1 [a] [1] [1>1:0]"},
		// States are numbers without a sign.
		{members: "var signed [1:0] s = -1; seq (rise clk) if (s < 0) s <= 1; else s <= 2'sb10;", want: "s p1 [] [3 1 2] [3>1:0 1>2:0 2>1:0]"},
		{members: "var signed s = 1; seq (rise clk) if (a) s <= 1; else s <= 0;", want: "s p1 [a] [1 0] [1>0:0 1>1:1 0>0:0 0>1:1]"},
		// Temporaries, functions and patterns.
		{members: "var [1:0] s = 1; var [2:0] t; seq (rise clk) { t = cat(a, s); t[1] = b; if (a) t = t + 1; if (t == 1) s <= 3; else if (t[2]) s <= 2; }", want: "s p1 [a b] [1 2 3] [1>1:2 1>2:1 1>3:0 2>2:0 3>2:1 3>3:0]"},
		{members: "function [1:0] f([1:0] s, c) { var n; n = s[0]; if (c) f = cat(n, s[1]); else f = 0; } var [1:0] s = 2; seq (rise clk) case (f(s, a)) { 0: s <= 1; 1: s <= 3; 3: s <= 0; }", want: "s p1 [a] [2 1 3 0] [2>1:0 2>3:1 1>1:0 3>0:1 3>1:0 0>1:0]"},
		{members: "var [1:0] s = 0; seq (rise clk) casez (y) { 4'bz1z0: s <= 1; 4'b1zzz: s <= 2; default: s <= 3; }", want: "s p1 [y[0] y[1] y[2] y[3]] [0 1 2 3] [0>1:4 0>2:8 0>3:0 1>1:4 1>2:8 1>3:0 2>1:4 2>2:8 2>3:0 3>1:4 3>2:8 3>3:0]"},
		// A reset leads from all states.
		{members: "var [1:0] s = 0; seq (rise clk, rise rst) if (rst) s <= 2; else case (s) { 0: s <= 1; 1: s <= 0; 2: s <= 3; 3: s <= 0; }", want: "s p1 [rst] [0 1 2 3] [0>1:0 0>2:1 1>0:0 1>2:1 2>2:1 2>3:0 3>0:0 3>2:1]"},
		{members: "var [1:0] s = 0; seq (rise clk, fall rst) if (!rst) s <= 2; else ;", want: "s p1 [rst] [0 2] [0>0:1 0>2:0 2>2:0]"},
		// Other processes change what this one reads, which does not matter.
		{members: "wire w; assign w = 0; var [1:0] s = 0; seq (rise clk) if (w) s <= 1;", want: "s p2 [w] [0 1] [0>0:0 0>1:1 1>1:0]"},
	})
}

// P16.2: as many states and free bits as there can be.
func TestManyStates(t *testing.T) {
	d := built(t, head+"var [4:0] s = 31; seq (rise clk) if (x == 0) s <= 0; }")
	var list []api.Item
	for i := range uint64(31) {
		list = append(list, api.Item{Match: []api.Expr{num(8, i+1)}, Do: api.Stmt{Op: api.Put, To: ref(7, 5), Args: []api.Expr{num(5, i)}}})
	}
	d.Procs[1].Body = api.Stmt{Op: api.Case, Args: []api.Expr{ref(4, 8)}, Items: list}
	l, e := machine.Find(d)
	if e != api.OK || len(l) != 1 || len(l[0].Free) != 8 || len(l[0].States) != 32 {
		t.Fatal(l, e)
	}
	for i, s := range l[0].States {
		if want := uint64(i+31) % 32; s != want {
			t.Error(i, s, want)
		}
	}
	// From 31 there are edges to all states, from the others to all but 31.
	var want []machine.Edge
	for _, from := range l[0].States {
		for to := range uint64(32) {
			free := to + 1
			if to == from {
				free = 0
			}
			if to < 31 || from == 31 {
				want = append(want, machine.Edge{From: from, To: to, Free: free})
			}
		}
	}
	if !equal(l[0].Edges, want) {
		t.Error(l[0].Edges)
	}
}

// P16.3: the order of the machines.
func TestOrder(t *testing.T) {
	checkNames(t, []row{
		{members: "var u = 0, s = 0, v = 0, t = 0; seq (rise clk) t <= 1; seq (rise clk) { s <= 1; u <= 1; } seq (rise clk) v <= a;", want: "u s t"},
	})
	check(t, []row{
		{members: "var s = 0, t = 0; seq (rise clk) t <= 1; seq (rise clk) s <= 1;", want: "s p2 [] [0 1] [0>1:0 1>1:0]; t p1 [] [0 1] [0>1:0 1>1:0]"},
	})
}

// P16.3, Z3: errors, and their order.
func TestFindErrors(t *testing.T) {
	good := built(t, head+"var s = 0; seq (rise clk) if (a) s <= 1; }")
	for _, x := range []struct {
		what   string
		change func(d *api.Design)
		want   api.Errno
	}{
		{"nothing", func(d *api.Design) {}, api.OK},
		{"no name", func(d *api.Design) { d.Name = "" }, api.ErrName},
		{"an output that nothing drives", func(d *api.Design) { d.Procs = d.Procs[1:] }, api.ErrState},
		{"both", func(d *api.Design) { d.Name, d.Procs = "", d.Procs[1:] }, api.ErrName},
		{"another width", func(d *api.Design) { d.Signals[7].W = 2 }, api.ErrForm},
		{"no Init", func(d *api.Design) { d.Signals[7].Init = nil }, api.ErrState},
		{"an Init that is not known", func(d *api.Design) { d.Signals[7].Init = []api.Bits{{W: 1, V: 1, X: 1}} }, api.ErrState},
		{"two processes", func(d *api.Design) { d.Procs = append(d.Procs, d.Procs[1]) }, api.ErrState},
		{"a Set beside the Put", func(d *api.Design) {
			s := copyOf(d.Procs[1].Body, 0)
			s.Kids[0].Op = api.Set
			d.Procs[1].Body = api.Stmt{Op: api.Block, Kids: []api.Stmt{s, d.Procs[1].Body}}
		}, api.ErrState},
		{"a Put with a time", func(d *api.Design) {
			s := &d.Procs[1].Body.Kids[0]
			s.Args = append(s.Args, num(1, 0))
		}, api.ErrState},
		{"a constant that is not known", func(d *api.Design) { d.Procs[1].Body.Kids[0].Args[0].N.X = 1 }, api.ErrState},
		{"a falling clock", func(d *api.Design) { d.Procs[1].Edges[0].Kind = api.Fall }, api.ErrState},
		{"too deep", func(d *api.Design) {
			for range api.MaxDeep {
				d.Procs[1].Body = api.Stmt{Op: api.Block, Kids: []api.Stmt{d.Procs[1].Body}}
			}
		}, api.ErrLarge},
	} {
		d := copyOf(good, 0)
		x.change(&d)
		l, e := machine.Find(d)
		if e != x.want || (len(l) > 0) != (x.want == api.OK) {
			t.Errorf("%s: %v, error %d, not %d", x.what, l, e, x.want)
		}
	}
	if l, e := machine.Find(api.Design{}); e != api.ErrName || len(l) > 0 {
		t.Error(l, e)
	}
	if l, e := machine.Find(api.Design{Name: "d"}); e != api.OK || len(l) > 0 {
		t.Error(l, e)
	}
}
