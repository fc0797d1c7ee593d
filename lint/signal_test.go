package lint_test

import (
	"slices"
	"testing"

	"maskwright/api"
	"maskwright/lint"
)

// open changes a design such that its only output has no driver.
func open(d *api.Design) { d.Procs[0].Body = set(api.Expr{Op: api.Ref, W: 1, Sig: 6}, num(1, 0)) }

// P13.4: bits without a driver.
func TestNone(t *testing.T) {
	check(t, []row{
		{members: "wire w;", want: "none - q", change: open},
		{members: "wire w; assign q[2:0] = x;", want: "none - q", change: open},
		{members: "wire w; assign q[2:0] = x; assign q[3] = y;", want: "- -: 0 1 2", change: open},
		{members: "wire w; var v;", want: "- -: 0"},
		{members: "wire w; wire u; assign w = u;", want: "none p1 u"},
		{members: "wire [1:0] w; wire u; assign w[0] = u; assign u = w[1];", want: "none p2 w"},
		{members: "wire [1:0] w; wire u; assign w[0] = u; assign u = w;", want: "none p2 w, loop p1 -, loop p2 -"},
		{members: "wire w [0:1]; wire u; assign w[0] = x; assign u = w[0];", want: "- -: 0 1 2"},
		{members: "wire w [0:1]; wire u; assign w[0] = x; assign u = w[1];", want: "none p2 w"},
		{members: "wire w [0:1]; wire u; assign w[0] = x; assign u = w[y[0]];", want: "none p2 w"},
		{members: "wire w [0:1]; wire u; assign w[0] = x; assign w[1] = x; assign u = w[y[0]];", want: "- -: 0 1 2 3"},
		// Who reads it.
		{members: "wire w; comb if (w) ; comb case (y) { w: ; } comb case (w) { } var v [0:1]; comb { v[0] = 0; v[1] = 0; v[w] = 1; }", want: "none p1 w, none p2 w, none p3 w, none p4 w"},
		{members: "wire w; seq (rise clk) if (w) ;", want: "none p1 w"},
		{members: "wire w; seq (rise clk, w) if (set) ; else ;", want: "reset p1 w, none p1 w"},
		{members: "wire w; initial { on (w); } always wait (w);", want: "kind p1 -, kind p2 -, none p1 w, none p2 w"},
		{members: "wire w; wire u; property p (rise clk) w -> 1; property r (rise clk) 1 -> [w or [w then (1) u]];", want: "none - w, none - u"},
		{members: "wire w; property p (rise w) 1 -> 1;", want: "clock - w"},
		{members: "function f(a) { f = a; } wire w; wire u; assign u = f(w);", want: "none p1 w"},
		// Drivers of variables: of a Seq process for all bits, of others for those that they drive.
		{members: "var v; comb if (v) ;", want: "none p1 v"},
		{members: "var [3:0] v = 0; seq (rise clk) v[0] <= x; comb if (v) ;", want: "clk -: 0 2"},
		{members: "var v [0:3] = 0; seq (rise clk) v[1] <= x; comb if (v[2]) ;", want: "clk -: 0 2"},
		{members: "var [3:0] v; comb v[0] = x; comb if (v[0]) ;", want: "- -: 0 1 2"},
		{members: "var [3:0] v; comb v[0] = x; comb if (v[1:0]) ;", want: "none p2 v"},
		{members: "var v [0:3]; comb v[1] = x; comb if (v[2]) ;", want: "none p2 v"},
		{members: "var v [0:3]; comb v[y] = x; comb if (v[2]) ;", want: "latch p1 v"},
		{members: "var [3:0] v; initial v[0] = 1; comb if (v[0]) ; comb if (v[1]) ;", want: "kind p1 -, none p3 v"},
		{members: "var [3:0] v; always v[0] <= 1; comb if (v[0]) ; comb if (v[1]) ;", want: "kind p1 -, none p3 v"},
		{members: "var [3:0] v = 0; seq (rise clk) v[0] = x; comb if (v[1]) ;", want: "assigned p1 v"},
		{members: "var v; comb v <= x; comb if (v) ;", want: "assigned p1 v, latch p1 v"},
	})
	// A variable that is an output, and one element of one, of which no bit is named.
	out := func(d *api.Design) {
		d.Signals[6].Port = api.Out
	}
	check(t, []row{
		{members: "var [1:0] v;", want: "none - v", change: out},
		{members: "var [1:0] v; comb v[0] = x;", want: "none - v", change: out},
		{members: "var [1:0] v; comb v = x;", want: "- -: 0 1", change: out},
		{members: "var [1:0] v = 0; seq (rise clk) v[0] <= x;", want: "clk -: 0", change: out},
		{members: "var [1:0] v; initial v[1] = 0;", want: "kind p1 -, none - v", change: out},
		{members: "var v [0:1] = 0; seq (rise clk) v[0] <= 1; comb if (v[1]) ;", want: "index p1 v", change: func(d *api.Design) {
			d.Procs[1].Body.To.Kids[0] = num(2, 3)
			d.Procs[1].Body.To.Kids[0].Signed = true
			d.Procs[2].Body.Args[0] = ref(1, 1)
		}},
		{members: "var v [0:1] = 0; seq (rise clk) v[0] <= 1; comb if (v[1]) ;", want: "index p1 v", change: func(d *api.Design) {
			d.Procs[1].Body.To.Kids[0] = num(2, 3)
		}},
	})
}

// P13.4: bits with several drivers.
func TestSeveral(t *testing.T) {
	check(t, []row{
		{members: "assign q = 0;", want: "several p1 q"},
		{members: "assign q[1] = 0; assign q[0] = 0; wire w; assign w = 0; assign w = 0;", want: "several p1 q, several p2 q, several p4 w"},
		{members: "wire [3:0] w; assign w[1:0] = 0; assign w[3:2] = 1;", want: "- -: 0 1 2"},
		{members: "wire [3:0] w; assign w[1:0] = 0; assign w[3:1] = 1; assign w[0] = 1; assign w = 0;", want: "several p2 w, several p3 w, several p4 w"},
		{members: "wire [3:0] w [0:1]; assign w[0] = 0; assign w[1] = 1; assign w[1][3] = 1;", want: "several p3 w"},
		{members: "wire w; wire u; assign w = 1; assign u = 0; assign cat(w, u) = 0;", want: "several p3 w, several p3 u"},
		{members: "wire w; assign cat(w, w) = 0;", want: "- -: 0 1"},
		{members: "wire w; assign w = w; assign w = w;", want: "several p2 w, loop p1 -, loop p2 -"},
		// Variables, whichever bits.
		{members: "var v; comb v = 0; comb v = 0;", want: "several p2 v"},
		{members: "var [1:0] v; comb v[0] = 0; comb v[1] = 0; comb v[1] = 1;", want: "several p2 v"},
		{members: "var v [0:1]; comb v[0] = 0; comb ; seq (rise clk) v[1] = 0;", want: "several p3 v"},
		{members: "var v; var u; comb v = 0; seq (rise clk) u = 0; comb cat(u, v) = 0; comb v = 1;", want: "several p3 v, several p3 u"},
		{members: "var v = 0; seq (rise clk) v <= 0; seq (rise clk) { v = 0; }", want: "several p2 v"},
		{members: "var v = 0; seq (rise clk) { v <= 0; v <= 1; }", want: "clk -: 0"},
		{members: "var v; initial v <= 0; always v = 1; comb v = 0;", want: "kind p1 -, kind p2 -, several p2 v"},
		{members: "var v = 0; initial v = 0; seq (rise clk) v <= 0;", want: "kind p1 -, several p2 v"},
		{members: "var v; comb if (x) v = 1; comb { if (y) ; else { { v = 0; } } }", want: "several p2 v, latch p1 v, latch p2 v"},
	})
	// A target that names no bit is one all the same.
	check(t, []row{
		{members: "var v [0:1]; comb v[0] = 0; comb v[1] = 1;", want: "several p2 v, index p1 v", change: func(d *api.Design) { d.Procs[1].Body.To.Kids[0] = num(2, 2) }},
		{members: "var v [0:1]; comb v[0] = 0; comb v[1] = 1;", want: "several p2 v, index p2 v", change: func(d *api.Design) { d.Procs[2].Body.To.Kids[0] = num(2, 2) }},
		{members: "wire w [0:1]; assign w[0] = 0; assign w[1] = 1;", want: "index p2 w", change: func(d *api.Design) { d.Procs[2].Body.To.Kids[0] = num(2, 2) }},
		{members: "wire w [0:1]; assign w[0] = 0; assign w[1] = 1;", want: "several p2 w, unknown p2 -, index p2 w", change: func(d *api.Design) { d.Procs[2].Body.To.Kids[0] = some(2) }},
	})
}

// P13.5: assignments of the wrong kind.
func TestAssigned(t *testing.T) {
	check(t, []row{
		{members: "var v; var u; comb { v <= 0; u = 0; }", want: "assigned p1 v, latch p1 v"},
		{members: "var v; var [1:0] u; comb if (x) cat(v, u[1]) <= 0;", want: "assigned p1 v, assigned p1 u, latch p1 v, latch p1 u"},
		{members: "var v; comb { v <= 0; v = 0; }", want: "assigned p1 v"},
		{members: "var v = 0; seq (rise clk) { v <= 0; v = 0; }", want: "assigned p1 v"},
		{members: "var [1:0] v = 0; seq (rise clk) { if (x) { v[0] <= 0; } v[1] = 0; }", want: "assigned p1 v"},
		{members: "var v = 0; var u = 0; seq (rise clk) { cat(u, v) = 0; v <= 0; }", want: "assigned p1 v"},
		{members: "var v = 0; var u; seq (rise clk) { u = x; v <= u; }", want: "clk -: 0"},
		{members: "var v; seq (rise clk) v = 0; comb if (v) ;", want: "assigned p1 v"},
		{members: "var v; comb if (v) ; seq (rise clk) v = 0;", want: "assigned p2 v"},
		{members: "var v; seq (rise clk) v = 0; seq (rise clk) if (v) ;", want: "assigned p1 v"},
		{members: "var v; seq (rise clk) v = 0; seq (rise clk) { v = 0; if (v) ; }", want: "several p2 v, assigned p1 v"},
		{members: "var [3:0] v; seq (rise clk) v[0] = 0; wire w; assign w = v[3];", want: "assigned p1 v"},
		{members: "var v [0:3]; seq (rise clk) v[0] = 0; wire w; assign w = v[3];", want: "assigned p1 v"},
		{members: "var v; seq (rise clk) v = 0; property p (rise clk) 1 -> v;", want: "assigned p1 v"},
		{members: "var v; seq (rise clk) v = 0; property p (rise v) 1 -> 1;", want: "clock - v"},
		{members: "var v; seq (rise clk) v = 0; seq (rise clk, v) if (set) ; else ;", want: "reset p2 v, assigned p1 v"},
		{members: "var v; seq (rise clk) v = 0; initial on (v);", want: "kind p2 -, assigned p1 v"},
		{members: "var v; seq (rise clk) v = 0;", want: "assigned p1 v", change: func(d *api.Design) { d.Signals[6].Port = api.Out }},
		{members: "var v; comb v = 0;", want: "- -: 0 1", change: func(d *api.Design) { d.Signals[6].Port = api.Out }},
		{members: "var v; initial { v = 0; v <= 0; }", want: "kind p1 -"},
	})
}

// P13.8, P13.10, P13.12: registers, the values with which they begin, and their size.
func TestRegisters(t *testing.T) {
	check(t, []row{
		{members: "var v; seq (rise clk) v <= 0;", want: "unknown - v"},
		{members: "var [1:0] v = 2'bx1; var [1:0] u = 2'bz1; var [1:0] s = 1; seq (rise clk) cat(v, u, s) <= 0;", want: "unknown - v, unknown - u"},
		{members: "var [1:0] v [0:1] = 1; seq (rise clk) v[0] <= 0;", want: "unknown - v", change: func(d *api.Design) { d.Signals[6].Init[1].X = 2 }},
		{members: "var v = 1'bx; var u = 1'bx; comb v = 0; seq (rise clk) u = v;", want: "clk -: 0 1"},
		{members: "var v; initial v <= 0; comb if (v) ;", want: "kind p1 -"},
		// The size.
		{members: "var [63:0] v [0:3] = 0; seq (rise clk) v[0] <= 0;", want: "clk -: 0"},
		{members: "var [63:0] v [0:3] = 0; seq (rise clk) v[0] <= 0; var u = 0; seq (rise clk) u <= 1;", want: "size - -"},
		{members: "var [63:0] v [0:4] = 0; seq (rise clk) v[3] <= 0;", want: "size - -"},
		{members: "var [7:0] v [0:31] = 0; var u = 0; var [63:0] s [0:31]; seq (rise clk) { v[0] <= 0; u = 0; } comb s[0] = x;", want: "clk -: 0 2"},
		{members: "var [7:0] v [0:31]; var u; seq (rise clk) { v[0] <= 0; u <= 0; }", want: "unknown - v, unknown - u, size - -"},
	})
	d := built(t, head+`var a = 0; var b; var c; var e; var [1:0] f [0:1]; var g; var h;
		comb b <= 0; initial c <= 0; seq (rise clk) { e = 0; if (x) { case (y) { 1: cat(h, f[y[0]]) <= 0; default: while (x) a <= 0; } } } seq (rise clk) h <= 1; }`)
	if got := lint.Registers(d); !slices.Equal(got, []int{index(d, "a"), index(d, "f"), index(d, "h")}) {
		t.Error(got)
	}
	// A target counts that names no bit, but not one of a design that is not valid.
	d.Procs[4].Body.To = elem(index(d, "g"), 1, num(2, 2))
	if got := lint.Registers(d); !slices.Equal(got, []int{index(d, "a"), index(d, "f"), index(d, "g"), index(d, "h")}) {
		t.Error(got)
	}
	d.Procs[4].Name = ""
	if got := lint.Registers(d); len(got) > 0 {
		t.Error(got)
	}
	if got := lint.Registers(built(t, head+"var v = 0; comb v = 1; }")); len(got) > 0 {
		t.Error(got)
	}
}

// P13.7, P13.11: circles of processes, and the order of the others.
func TestOrder(t *testing.T) {
	check(t, []row{
		{members: "wire w; assign w = w;", want: "loop p1 -"},
		{members: "wire [1:0] w; assign w[1] = w[0]; assign w[0] = x;", want: "- -: 0 2 1"},
		{members: "wire [1:0] w; assign w[1] = w[0]; assign w[0] = w[1];", want: "loop p1 -, loop p2 -"},
		{members: "wire [1:0] w; assign w = cat(x[0], w[1]);", want: "loop p1 -"},
		{members: "wire [1:0] w; assign w[0] = w[y[0]]; assign w[1] = 0;", want: "loop p1 -"},
		{members: "wire w [0:1]; assign w[0] = w[1]; assign w[1] = y;", want: "- -: 0 2 1"},
		{members: "wire a; wire b; wire c; wire e; wire f; assign a = b; assign b = c; assign c = a; assign e = c; assign b = f; assign f = x;", want: "several p5 b, loop p1 -, loop p2 -, loop p3 -"},
		{members: "wire a; wire b; wire c; wire e; assign a = b; assign b = a; assign c = a; assign e = c & e;", want: "loop p1 -, loop p2 -, loop p4 -"},
		// A Comb process is not before itself.
		{members: "var v; comb { v = x; v = !v; }", want: "- -: 0 1"},
		{members: "var v; wire w; comb { v = x; v = w; } assign w = y; comb if (w) ;", want: "- -: 0 2 1 3"},
		{members: "var v; wire w; comb { v = x; v = w; } assign w = v;", want: "loop p1 -, loop p2 -"},
		{members: "var v; var u; comb { v = x; v = u; } comb if (v) u = 1; else u = 0;", want: "loop p1 -, loop p2 -"},
		{members: "var [1:0] v; comb { v = 0; } var u; comb { u = v[0]; } comb { } comb if (u) ;", want: "- -: 0 1 2 3 4"},
		// Put counts like Set, in indices, subjects and patterns as well.
		{members: "var v; wire w; comb { v = x; v <= w; } assign w = v;", want: "assigned p1 v, loop p1 -, loop p2 -"},
		{members: "var v [0:1]; wire w; comb { v[0] = 0; v[1] = 1; v[w] = 1; } assign w = v[0];", want: "loop p1 -, loop p2 -"},
		{members: "var v; wire w; comb case (x) { w: v = 1; default: v = 0; } assign w = v;", want: "loop p1 -, loop p2 -"},
		{members: "var v; wire w; comb { v = 0; case (w) { } } assign w = v;", want: "loop p1 -, loop p2 -"},
		// Registers and Seq processes are before nothing.
		{members: "var v = 0; wire w; seq (rise clk) v <= w; assign w = v;", want: "clk -: 0 2"},
		{members: "var v = 0; wire w; assign w = v; seq (rise clk) if (w) v <= v;", want: "clk -: 0 1"},
		// The smallest number first, as soon as it can be.
		{members: "wire a; wire b; wire c; wire e; assign a = c; assign b = y; assign c = b; assign e = a;", want: "- -: 0 2 3 1 4"},
		{members: "wire a; wire b; wire c; wire e; assign a = e; assign b = e; assign c = 0; assign e = y; ", want: "- -: 0 3 4 1 2"},
		{members: "wire a; wire b; wire c; assign a = b & c; seq (rise clk) ; assign b = 0; comb ; assign c = 0; comb if (a) ;", want: "clk -: 0 3 4 5 1 6"},
		{members: "wire a; property p (rise clk) a -> 1; seq (rise clk) ; assign a = 0;", want: "clk -: 0 2"},
	})
}
