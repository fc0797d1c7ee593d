package lint_test

import (
	"testing"

	"maskwright/api"
)

// P13.1: processes, statements and operations that only simulation knows.
func TestKind(t *testing.T) {
	check(t, []row{
		{members: "", want: "- -: 0"},
		{members: "always delay 1; initial ;", want: "kind p1 -, kind p2 -"},
		{members: `comb { show("a"); write("b"); }`, want: "kind p1 -"},
		{members: `comb strobe("a"); seq (rise clk) monitor("b", x);`, want: "kind p1 -, kind p2 -"},
		{members: "comb { ; { check(x); } }", want: "kind p1 -"},
		{members: "comb if (x) ; else stop;", want: "kind p1 -"},
		{members: "comb if (x) stop;", want: "kind p1 -"},
		{members: "comb case (x) { 1: ; default: while (y) ; }", want: "kind p1 -"},
		{members: "comb case (x) { 1: repeat (y) ; default: ; }", want: "kind p1 -"},
		{members: "var v = 0; seq (rise clk) v <= after (1) 0;", want: "kind p1 -"},
		{members: "var v; initial { delay 1; on (rise clk); wait (x); v = after (2) 1; }", want: "kind p1 -"},
		{members: "wire w; assign w = now;", want: "kind p1 -"},
		{members: "wire w; assign w = x && (now == 1);", want: "kind p1 -"},
		{members: "comb case (x) { now: ; }", want: "kind p1 -"},
		{members: "comb casex (x) { now: ; }", want: "kind p1 -"},
		{members: "function f(a) { while (a) ; f = a; } wire w; assign w = f(x);", want: "kind f0 -"},
		{members: "function f(a) { f = a; } function g(a) { repeat (1) ; g = 1; } wire w; assign w = f(x) + g(x);", want: "kind f1 -"},
		{members: "property a (rise clk) 1 -> now; property b (rise clk) now == 3 -> 1;", want: "kind - -"},
		{members: "property a (rise clk) 1 -> [x then (1) [y or [x and now]]] times (2);", want: "kind - -"},
	})
	// A target has indices, and a Set with two Args can be wherever time is.
	check(t, []row{
		{members: "var [3:0] v; comb v[3:0] = x;", want: "kind p1 -, latch p1 v, index p1 -", change: func(d *api.Design) {
			d.Procs[1].Body.To = op(api.Part, 4, ref(6, 4), op(api.Now, 64))
		}},
		{members: "var v; always v = 1;", want: "kind p1 -", change: func(d *api.Design) {
			d.Procs[1].Body.Args = append(d.Procs[1].Body.Args, num(1, 1))
		}},
	})
}

// P13.2: the clock, and edges, properties and expressions that do not fit it.
func TestClock(t *testing.T) {
	check(t, []row{
		{members: "seq (rise clk) ;", want: "clk -: 0"},
		{members: "seq (rise rst) ; seq (rise rst) ;", want: "rst -: 0"},
		{members: "property p (rise clk) 1 -> 1;", want: "clk -: 0"},
		{members: "property p (rise clk) 1 -> 1; property r (rise set) 1 -> 1; property s (rise set) 1 -> 1; property u (rise clk) 1 -> 1; property v (rise rst) 1 -> 1;", want: "clock - rst, clock - set"},
		{members: "property p (rise clk) 1 -> 1; seq (rise set) ;", want: "clock - clk"},
		// The clock is no line.
		{members: "seq (rise y) ;", want: "clock - y"},
		{members: "property p (rise y) 1 -> 1;", want: "clock - y"},
		{members: "wire w; seq (rise w) ;", want: "clock - w, none p1 w"},
		{members: "var w; comb w = 0; property p (rise w) 1 -> 1;", want: "clock - w, clock p1 w"},
		{members: "assign q[0] = 1;", want: "clock - o, clock p1 o", change: func(d *api.Design) {
			d.Signals = append(d.Signals, api.Signal{Name: "o", Port: api.Out, W: 1, Elems: 1})
			d.Procs[1].Body.To = ref(6, 1)
			d.Props = []api.Prop{{Name: "p", Clock: 6, From: api.Temporal{E: num(1, 1)}, To: api.Temporal{E: num(1, 1)}}}
		}},
		// The edges of processes.
		{members: "seq (fall clk) ;", want: "clock p1 clk"},
		{members: "seq (clk) ; seq (rise clk) ;", want: "clock p1 clk"},
		{members: "seq (rise clk) ; seq (rise set) ; seq (fall clk) ; seq (rst) ; seq (rise clk) ;", want: "clock p2 set, clock p3 clk, clock p4 rst"},
		{members: "seq (rise clk, rise rst, rise set) ;", want: "clock p1 clk"},
		{members: "seq (rise clk, rise clk, rise clk, rise clk) if (clk) ; else ;", want: "clock p1 clk"},
		{members: "seq (fall clk, rise clk) ;", want: "clock p1 clk"},
		{members: "seq (rise clk) ; seq (rise set, rise clk) ;", want: "clock p2 set"},
		{members: "seq (rise clk) ; seq (fall rst, rise clk, rise set) ; property p (rise rst) 1 -> 1;", want: "clock - rst, clock p2 rst"},
		// The clock as a value.
		{members: "seq (rise clk) ; wire w; assign w = clk;", want: "clock p2 clk"},
		{members: "seq (rise clk) if (!clk) ;", want: "clock p1 clk"},
		{members: "wire w; assign w = x[clk]; seq (rise clk) ; comb case (y) { clk: ; } comb casez (y) { clk: ; }", want: "clock p1 clk, clock p3 clk, clock p4 clk"},
		{members: "wire w; assign w = x; seq (rise clk) ; property p (rise clk) 1 -> x + clk;", want: "clock - clk"},
		{members: "property p (rise clk) [x or [1 then (1) clk]] -> 1; property r (rise clk) clk -> clk;", want: "clock - clk"},
		{members: "wire w; assign w = clk & set;", want: "- -: 0 1"},
		{members: "wire w; assign w = clk; property p (rise set) 1 -> 1;", want: "set -: 0 1"},
		{members: "function f(a) { f = a; } wire w; assign w = f(x); seq (rise clk) ;", want: "clk -: 0 1"},
		{members: "function f(a) { f = a; } wire w; assign w = f(clk); seq (rise clk) ;", want: "clock p1 clk"},
		// Both.
		{members: "var v; comb v = x; seq (rise v) v = v;", want: "clock - v, clock p1 v, clock p2 v, several p2 v, latch p2 v"},
		{members: "wire w; assign w = 0; seq (fall w) if (w) ;", want: "clock - w, clock p1 w, clock p2 w"},
	})
	// The number 0 is a signal like others.
	check(t, []row{
		{members: "seq (rise clk) ;", want: "clock - clk", change: func(d *api.Design) { d.Signals[0].W = 2 }},
		{members: "seq (rise set, rise clk) if (clk) ; else ; seq (rise set, rise rst) if (rst) ; else ;", want: "reset p2 rst"},
		{members: "seq (rise set, rise rst) if (rst) ; else ; seq (rise set, rise clk) if (clk) ; else ;", want: "reset p2 clk"},
	})
	// An Elem of the clock, and one that is a target.
	check(t, []row{
		{members: "wire w; assign w = x; seq (rise clk) ;", want: "clock p1 clk", change: func(d *api.Design) {
			d.Procs[1].Body.Args[0] = elem(0, 1, num(1, 0))
		}},
		{members: "wire w; assign w = x; seq (rise w) ;", want: "clock - w, clock p1 w", change: func(d *api.Design) {
			d.Procs[1].Body.To = elem(6, 1, num(1, 0))
		}},
		{members: "wire [1:0] w; assign w[0] = x; assign w[1] = x; property p (rise w) 1 -> 1;", want: "clock - w, clock p1 w, clock p2 w"},
	})
}

// P13.3: the processes with a second edge.
func TestReset(t *testing.T) {
	check(t, []row{
		{members: "var v = 0; seq (rise clk, rise rst) if (rst) v <= 1; else v <= x;", want: "clk rst: 0"},
		{members: "var v = 0; seq (rise clk, fall rst) if (!rst) v <= 1; else v <= x;", want: "clk rst: 0"},
		{members: "seq (rise clk, rise rst) if (rst) ; else ;", want: "clk rst: 0"},
		{members: "seq (rise clk, rise rst) if (rst) { } else { { ; } }", want: "clk rst: 0"},
		{members: "seq (rise clk) ; seq (rise clk, rise set) if (set) ; else ; seq (rise clk, rise set) if (set) ; else ;", want: "clk set: 0"},
		{members: "var [3:0] v = 0; var u = 0; seq (rise clk, rise rst) if (rst) { ; v <= 1; { u <= 0; v <= 2; } } else { v[0] <= x; cat(u, v[2 +: 2]) <= x; }", want: "clk rst: 0"},
		{members: "var v = 0; wire w; seq (rise clk, rise rst) if (rst) v <= 1; else if (rst) ; else ; assign w = rst;", want: "clk rst: 0 2"},
		// The second edge: another signal than the reset, the clock, no line; no Rise or Fall, or of another Kind.
		{members: "seq (rise clk, rise rst) if (rst) ; else ; seq (rise clk, rise set) if (set) ; else ;", want: "reset p2 set"},
		{members: "seq (rise clk, rise clk) if (clk) ; else ;", want: "clock p1 clk, reset p1 clk"},
		{members: "seq (rise clk, rise x) if (x) ; else ;", want: "reset p1 x"},
		{members: "wire w; assign w = x; seq (rise clk, rise w) if (w) ; else ;", want: "reset p2 w"},
		{members: "seq (rise clk, rst) if (rst) ; else ;", want: "reset p1 rst"},
		{members: "seq (rise clk, rise rst) if (rst) ; else ; seq (rise clk, fall rst) if (!rst) ; else ; seq (rise clk, rst) if (rst) ; else ;", want: "reset p2 rst, reset p3 rst"},
		{members: "seq (rise clk, fall rst) if (!rst) ; else ; seq (rise clk, rise rst) if (rst) ; else ;", want: "reset p2 rst"},
		{members: "seq (rise clk, rst) if (rst) ; else ; seq (rise clk, rise rst) if (rst) ; else ; seq (rise clk, rst) ;", want: "reset p1 rst, reset p2 rst, reset p3 rst"},
		// Others are not of this form.
		{members: "seq (rise clk, rise rst, rise set) ; seq (fall clk, rise rst) ; seq (rise set, rise rst) ; seq (rise clk, rise set) if (set) ; else ;", want: "clock p1 clk, clock p2 clk, clock p3 set"},
		{members: "seq (fall clk, rise rst) ; seq (rise clk, rise set) if (set) ; else ; seq (rise clk, rise rst) if (rst) ; else ;", want: "clock p1 clk, reset p3 rst"},
		// The body.
		{members: "seq (rise clk, rise rst) ;", want: "reset p1 rst"},
		{members: "seq (rise clk, rise rst) if (rst) ;", want: "reset p1 rst"},
		{members: "seq (rise clk, rise rst) { if (rst) ; else ; }", want: "reset p1 rst"},
		{members: "seq (rise clk, rise rst) case (rst) { 1: ; default: ; }", want: "reset p1 rst"},
		{members: "var v = 0; seq (rise clk, rise set) if (set) ; else ; seq (rise clk, rise rst) if (x) v <= x; else v <= 1;", want: "reset p2 rst"},
		{members: "var v = 0; seq (rise clk, rise rst) if (rst) v <= 1;", want: "reset p1 rst"},
		// A Fall without LNot.
		{members: "var v = 0; seq (rise clk, fall rst) if (rst) v <= x; else v <= 1;", want: "reset p1 rst"},
		{members: "var v = 0; seq (rise clk, fall rst) if (~rst) ; else v <= 1;", want: "reset p1 rst"},
		// The condition.
		{members: "seq (rise clk, rise rst) if (!rst) ; else ;", want: "reset p1 rst"},
		{members: "seq (rise clk, rise rst) if (set) ; else ;", want: "reset p1 rst"},
		{members: "seq (rise clk, rise rst) if (rst == 1) ; else ;", want: "reset p1 rst"},
		{members: "seq (rise clk, rise rst) if (rst[0]) ; else ;", want: "reset p1 rst"},
		{members: "seq (rise clk, fall rst) if (!set) ; else ;", want: "reset p1 rst"},
		{members: "seq (rise clk, fall rst) if (!!rst) ; else ;", want: "reset p1 rst"},
		{members: "var v = 0; seq (rise clk, rise rst) if (x) v <= 1; else v <= x;", want: "reset p1 rst"},
		{members: "var v = 0; seq (rise clk, rise rst) if (x) ; else v <= x;", want: "reset p1 rst, reset p1 v"},
		{members: "var v = 0; seq (rise clk, fall rst) if (!x) ; else v <= x;", want: "reset p1 rst, reset p1 v"},
		// No list of constants.
		{members: "var v = 0; seq (rise clk, rise rst) if (rst) v <= x; else v <= x;", want: "reset p1 rst, reset p1 v"},
		{members: "var v = 0; seq (rise clk, rise rst) if (rst) { v <= 1; { if (x) ; } } else v <= x;", want: "reset p1 rst, reset p1 v"},
		{members: "var v = 0; seq (rise clk, rise rst) if (rst) if (rst) v <= 1; else ; else v <= x;", want: "reset p1 rst, reset p1 v"},
		{members: "var v = 0; seq (rise clk, rise rst) if (rst) case (y) { } else ;", want: "reset p1 rst"},
		{members: "var [1:0] v = 0; var u = 0; seq (rise clk, rise rst) if (rst) { v[0] <= 1; } else { u <= x; v <= x; }", want: "reset p1 rst, reset p1 v, reset p1 u"},
		{members: "var [1:0] v = 0; seq (rise clk, rise rst) if (rst) cat(v) <= 1; else ;", want: "reset p1 rst"},
		{members: "var [1:0] v [0:1] = 0; seq (rise clk, rise rst) if (rst) v[0] <= 1; else v[0] <= 1;", want: "reset p1 rst, reset p1 v"},
		{members: "var v = 0; seq (rise clk, rise rst) if (rst) v <= after (1) 1; else v <= 1;", want: "kind p1 -, reset p1 rst, reset p1 v"},
		{members: "var v; seq (rise clk, rise rst) if (rst) v = 1; else v = 1;", want: "reset p1 rst"},
		{members: "var v = 0; seq (rise clk, rise rst) if (rst) v <= 1'bx; else v <= 1;", want: "unknown p1 -"},
		// Puts without a constant.
		{members: "var v = 0; var u = 0; seq (rise clk, rise rst) if (rst) v <= 0; else { if (x) u <= 1; v <= 1; }", want: "reset p1 u"},
		{members: "var v = 0; var [1:0] u = 0; seq (rise clk, rise rst) if (rst) ; else cat(v, u[1]) <= 1;", want: "reset p1 v, reset p1 u"},
		{members: "var v = 0; var u = 0; seq (rise clk, rise rst) if (rst) { u <= 0; v <= 0; } else ;", want: "clk rst: 0"},
		{members: "var v = 0; var u; seq (rise clk, rise rst) if (rst) v <= 0; else { u = x; v <= u; }", want: "clk rst: 0"},
	})
}
