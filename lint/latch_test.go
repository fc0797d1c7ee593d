package lint_test

import (
	"strings"
	"testing"

	"maskwright/api"
)

// sureRow has a body with the variables v and u of 4 bits, a and b of a bit, m of 4 elements of 2 bits and s of a bit, and what breaks the rule.
type sureRow struct {
	body, want string
}

// sureVars declares the variables; as locals of a function they come behind its argument x, y and its result f.
const sureVars = "var [3:0] v; var [3:0] u; var a; var b; var [1:0] m [0:3]; var s; "

// sureRows are bodies; behind a | stands what breaks the rule for a Comb process at the end.
var sureRows = []sureRow{
	// Set.
	{"v = x;", ""},
	{"v[2:0] = x;", ""},
	{"{ v[2:0] = x; v[3] = y; }", ""},
	{"{ v[2:1] = x; cat(v[3], u) = y; v[0] = 0; }", ""},
	{"cat(v[3:2], v[1:0]) = x;", ""},
	{"v = v;", "v"},
	{"v[0] = v[1];", "v"},
	{"{ v[1] = 0; v[0] = v[1]; v[3:2] = v[1:0]; }", ""},
	{"{ v[1] = 0; u = v[2]; v = 0; }", "v"},
	{"cat(v, u) = v;", "v"},
	{"{ v = 0; v[x] = 1; }", ""},
	{"v[x] = 1;", "| v"},
	{"{ v[y +: 2] = 1; v[3:1] = 0; }", "| v"},
	{"{ v[y] = 1; v[y] = v[2]; }", "v"},
	{"m[y] = 1;", "| m"},
	{"{ m[0] = 0; m[1] = 1; m[2] = 2; m[3] = 3; }", ""},
	{"{ m[0] = 0; m[1] = 1; m[3] = 3; m[y] = 3; a = m[3]; }", "| m"},
	{"{ m[0] = 0; m[1] = 1; m[3] = 3; a = m[y]; m[2] = 0; }", "m"},
	{"{ m[0] = 0; m[1] = 1; m[3][0] = 3; m[2] = 2; a = m[3][1]; m[3][1] = 0; }", "m"},
	{"{ m[0] = 0; m[1] = 1; m[3][0] = 3; m[2] = 2; a = m[3][0]; m[3][1] = 0; }", ""},
	{"{ m[0] = 0; m[1] = 1; m[3] = 3; m[2][y[0]] = 2; }", "| m"},
	{"{ m[0] = 0; m[1] = 1; m[3] = 3; }", ""},
	{"{ m[0] = 0; m[1] = 1; m[3] = 3; m[y][0] = 1; m[2][1] = 2; m[2][0] = 0; }", ""},
	// Indices of targets, also those of a Cat, are read before anything is set.
	{"m[v] = 1;", "| m ^ v"},
	{"{ v[1:0] = 0; m[v[1:0]] = 1; v[3:2] = 0; }", "| m"},
	{"cat(v, u[v[1:0]]) = 1;", "v | u"},
	{"cat(u[v[1:0]], v) = 1;", "v | u"},
	{"cat(u[v[1:0] +: 2], v) = v;", "v | u"},
	{"{ m[a][b] = 1; cat(a, b) = 0; }", "a b | m"},
	{"v[v[0]] <= 1;", "| v"},
	{"{ a = 0; v[a] <= b; b = 0; }", "b | v"},
	{"{ a = b; v[a] <= 0; b = 0; }", "b | v"},
	{"{ v[s] <= 0; s = 0; }", "s | v"},
	{"{ v[u[1:0] +: 2] <= 0; u = 0; }", "u | v"},
	// If.
	{"if (x) v = 0;", "| v"},
	{"if (x) v = 0; else v = 1;", ""},
	{"if (x) ; else v = 1;", "| v"},
	{"if (v) v = 0; else v = 1;", "v"},
	{"if (x) { v = 0; u = 1; } else { v = 1; a = 0; }", "| u a"},
	{"if (x) { v[1:0] = 0; } else { v[2:1] = 0; }", "| v"},
	{"{ if (x) { v[1:0] = 0; } else { v[2:1] = 0; } u = v[1]; v[3:2] = 0; v[0] = 0; }", ""},
	{"{ if (x) { v[1:0] = 0; } else { v[2:1] = 0; } u = v[0]; v = 0; }", "v"},
	{"{ if (x) { v[1:0] = 0; } else { v[2:1] = 0; } u = v[2]; v = 0; }", "v"},
	{"{ v = 0; if (x) u = v; else if (y) u = 1; else u = v + 1; a = u; }", ""},
	{"{ if (x) if (y) v = 0; else v = 1; a = v; v = 2; }", "v"},
	{"{ if (x) { v = 0; a = v; } else a = v; v = 2; }", "v"},
	{"{ if (x) { a = v; } else { v = 0; } v = 2; a = 0; }", "v"},
	// Case.
	{"case (y) { 2'd0: v = 0; 2'd1: v = 0; 2'd2: v = 0; 2'd3: v = 0; }", ""},
	{"case (y) { 2'd0: v = 0; 2'd1, 2'd3: v = 0; 2'd2: v = 0; }", ""},
	{"case (y) { 2'd0: v = 0; 2'd1: v = 0; 2'd3: v = 0; }", "| v"},
	{"case (y) { 2'd0: v = 0; 2'd1: v = 0; 2'd3: v = 0; x[1:0]: v = 0; }", "| v"},
	{"case (y) { 2'd0: v = 0; 2'd1: v = 0; 2'd3: v = 0; default: v = 0; }", ""},
	{"case (y) { default: v = 0; }", ""},
	{"case (y) { default: v = 0; 2'd1: ; }", "| v"},
	{"case (y) { default: ; 2'd1: v = 0; }", "| v"},
	{"case (y) { 2'd0, 2'd1, 2'd2, 2'd3: v = 0; 2'd0, 2'd1: ; }", "| v"},
	{"case (y) { }", ""},
	{"{ v = 0; case (y) { 2'd1: u = v; } u = 0; }", ""},
	{"{ case (y) { 2'd1: u = v; 2'd2: v = 0; } v = 0; u = 0; }", "v"},
	{"{ case (y) { 2'd1: v = 0; 2'd0: u = v; } v = 0; u = 0; }", "v"},
	{"{ case (y) { 2'd1: { v = 0; u = v; } 2'd0, 2'd2, 2'd3: { v = 1; } } u = v; }", ""},
	{"case (y) { 2'd0: { v = 0; u[1] = 1; } 2'd1: v = 0; 2'd2: v = 0; 2'd3: cat(u, v) = 0; }", "| u"},
	{"casez (y) { 2'd0: v = 0; 2'd1: v = 0; 2'd2: v = 0; 2'd3: v = 0; }", "| v"},
	{"casex (y) { 2'd0: v = 0; 2'd1: v = 0; 2'd2: v = 0; 2'd3: v = 0; }", "| v"},
	{"casex (y) { 2'd0: v = 0; default: v = 0; }", ""},
	{"casex (y) { 2'bxx: v = 0; }", "| v"},
	{"case (v) { default: v = 0; }", "v"},
	{"case (x) { v: v = 0; default: v = 0; }", "v"},
	{"{ case (x) { 1: v = 0; v: v = 1; } v = 0; }", "v"},
	// While and Repeat.
	{"{ while (x) v = 0; u = v; v = 1; }", "v"},
	{"{ while (x) { v = 0; u = v; } v = 1; u = 1; }", ""},
	{"{ while (v) { v = 0; } v = 1; }", "v"},
	{"{ while (x) { u = v; v = 0; } v = 1; u = 1; }", "v"},
	{"{ repeat (3) v = 0; u = v; v = 0; }", "v"},
	{"{ repeat (v) u = 0; v = 0; u = 0; }", "v"},
	{"{ v = 0; u = 0; repeat (v) { u = v; v = u; } }", ""},
	{"while (x) if (y) v = 0; else v = 0;", "| v"},
	{"{ repeat (v) while (a) b = u; b = 0; }", "^ v u a"},
	// Other reads.
	{"{ u = v[x]; v = 0; }", "v"},
	{"{ v[0] = 0; u = v[x]; v = 0; }", "v"},
	{"{ v[3:1] = 0; u = x ? v[2] + v[3] : !v[1]; v = 0; }", ""},
	{"{ v[3:1] = 0; u = x ? v[2] + v[3] : !v[0]; v = 0; }", "v"},
	{"{ v[3:1] = 0; u = m[v[1:0]]; v = 0; m[0] = 0; }", "v m"},
	{"{ v[3:0] = 0; u = x[a]; a = 1; }", "a"},
	{"v = s;", "^ s"},
	{"{ v = s; s = v; }", "s"},
}

// parts returns what breaks the rule within a body, at its end in a Comb process, and in a function only, where variables that nothing sets are looked at, too.
func (r sureRow) parts() (within, after, more string) {
	want, more, _ := strings.Cut(r.want, "^")
	within, after, _ = strings.Cut(want, "|")
	return within, after, more
}

// latches writes reasons of the rule Latch for those of some signals that stand in a list.
func latches(at, list string, signals ...string) string {
	var all []string
	for _, s := range signals {
		if strings.Contains(" "+list+" ", " "+s+" ") {
			all = append(all, "latch "+at+" "+s)
		}
	}
	return strings.Join(all, ", ")
}

// only returns the reasons of one rule.
func only(says, rule string) string {
	var all []string
	for _, s := range strings.Split(says, ", ") {
		if strings.HasPrefix(s, rule+" ") {
			all = append(all, s)
		}
	}
	return strings.Join(all, ", ")
}

// P13.6: bits that are read before they are surely set, or left without a value, in Comb and Seq processes and in functions.
func TestLatch(t *testing.T) {
	vars := []string{"v", "u", "a", "b", "m", "s"}
	for _, r := range sureRows {
		within, after, more := r.parts()
		rows := []struct{ where, want string }{
			{sureVars + "comb #", latches("p1", within+" "+after, vars...)},
			{sureVars + "seq (rise clk) #", latches("p1", within, vars...)},
			{sureVars + "initial #", ""},
			{sureVars + "comb ; comb ; seq (rise clk) { ; # }", latches("p3", within, vars...)},
		}
		if !strings.Contains(r.body, "<=") {
			text := "function f([3:0] x, [1:0] y) { " + sureVars + "f = 0; # } wire w; assign w = f(x, y);"
			rows = append(rows, struct{ where, want string }{text, latches("f0", within+" "+more, vars...)})
		}
		for _, x := range rows {
			text := strings.ReplaceAll(x.where, "#", r.body)
			if got := only(says(t, built(t, head+text+" }")), "latch"); got != x.want {
				t.Errorf("%s\n%s\nnot\n%s", text, got, x.want)
			}
		}
	}
}

// P13.6: the result of a function, its arguments, and calls.
func TestLatchOfFunctions(t *testing.T) {
	function := func(name, s string) string {
		return "function [3:0] " + name + "([3:0] x, [1:0] y) { var [3:0] v; " + s + " } "
	}
	use := "wire [3:0] w; assign w = f(x, y);"
	check(t, []row{
		{members: function("f", "f = x;") + use, want: "- -: 0 1"},
		{members: function("f", "") + use, want: "latch f0 f"},
		{members: function("f", "f[2:0] = x;") + use, want: "latch f0 f"},
		{members: function("f", "{ f[2:0] = x; f[3] = f[0]; }") + use, want: "- -: 0 1"},
		{members: function("f", "{ f[2:0] = x; f[3] = f[3]; }") + use, want: "latch f0 f"},
		{members: function("f", "if (x) f = y; else if (y) f = 1;") + use, want: "latch f0 f"},
		{members: function("f", "if (x) f = y; else if (y) f = 1; else f = 2;") + use, want: "- -: 0 1"},
		{members: function("f", "f = x; x = y; f = x + v;") + use, want: "latch f0 v"},
		{members: function("f", "v[1:0] = x; f = v[1:0];") + use, want: "- -: 0 1"},
		{members: function("f", "f = x[y] + y[x[0]];") + use, want: "- -: 0 1"},
		{members: function("f", "while (y) f = x;") + use, want: "kind f0 -, latch f0 f"},
		{members: function("f", "f[y] = 1;") + use, want: "latch f0 f"},
		{members: function("g", "g[0] = v;") + function("f", "f = g(x, f);") + use, want: "latch f0 g, latch f0 v, latch f1 f"},
		// Outside of a process, the signals of the same numbers do not matter; in a process, the variables of functions do not.
		{members: function("f", "f = x;") + "var [3:0] v; comb v = f(v, 1);", want: "latch p1 v"},
		{members: function("f", "f = x;") + "var [3:0] v; comb { v[0] = 0; v[1] = f(v[0], 1); v[3:2] = f(v[1], v[0]); }", want: "- -: 0 1"},
	})
	// A local array, and a constant that is not known as an index: all that such a place names is sure.
	array := function("f", "var [1:0] m [0:3]; m[0] = 0; m[1] = 1; m[2] = 2; f = m[y];") + use
	local0 := func(e api.Expr) func(d *api.Design) {
		return func(d *api.Design) { d.Funcs[0].Body.Kids[0].To.Kids[0] = e }
	}
	check(t, []row{
		{members: array, want: "latch f0 m"},
		{members: array, want: "unknown f0 -, index f0 m", change: local0(some(2))},
		{members: array, want: "latch f0 m", change: local0(num(2, 3))},
		{members: array, want: "latch f0 m", change: local0(op(api.Not, 2, num(2, 3)))},
		{members: array, want: "latch f0 m, index f0 m", change: local0(num(3, 4))},
		{members: array, want: "latch f0 m, index f0 m", change: local0(signed(num(2, 3)))},
	})
	part := func(w int, e api.Expr) func(d *api.Design) {
		return func(d *api.Design) {
			d.Procs[1].Body.To = op(api.Part, w, ref(6, 4), e)
			d.Procs[1].Body.Args[0] = num(w, 0)
		}
	}
	check(t, []row{
		{members: "var [3:0] v; comb v = 0;", want: "- -: 0 1", change: part(4, num(1, 0))},
		{members: "var [3:0] v; comb v = 0;", want: "unknown p1 -, index p1 -", change: part(1, some(2))},
		{members: "var [3:0] v; comb v = 0;", want: "- -: 0 1", change: part(2, num(2, 2))},
		{members: "var [3:0] v; comb v = 0;", want: "index p1 -", change: part(2, num(2, 3))},
		{members: "var [3:0] v; comb v = 0;", want: "index p1 -", change: part(2, num(3, 4))},
		{members: "var [3:0] v; comb v = 0;", want: "latch p1 v, index p1 -", change: part(4, op(api.Not, 1, num(1, 1)))},
		{members: "var [3:0] v; comb v = 0;", want: "latch p1 v", change: part(3, op(api.Not, 1, num(1, 1)))},
		// What is read behind the end names nothing.
		{members: "var [3:0] v; comb { v[0] = v[1]; v = 0; }", want: "index p1 -", change: func(d *api.Design) {
			d.Procs[1].Body.Kids[0].Args[0] = op(api.Part, 1, ref(6, 4), num(3, 4))
		}},
		{members: "var v [0:1]; comb { v[0] = v[1]; v[1] = 0; }", want: "index p1 v", change: func(d *api.Design) {
			d.Procs[1].Body.Kids[0].Args[0] = elem(6, 1, num(3, 2))
		}},
		{members: "var v [0:1]; comb { v[0] = v[1]; v[1] = 0; }", want: "latch p1 v, unknown p1 -, index p1 v", change: func(d *api.Design) {
			d.Procs[1].Body.Kids[0].Args[0] = elem(6, 1, some(1))
		}},
	})
}

// P13.6: a Case is complete with constants for all values of at most 6 bits.
func TestCompleteCases(t *testing.T) {
	full := func(w, n int) api.Stmt {
		s := api.Stmt{Op: api.Case, Args: []api.Expr{op(api.Resize, w, ref(3, 4))}}
		for i := range n {
			s.Items = append(s.Items, api.Item{Match: []api.Expr{num(w, uint64(i))}, Do: set(ref(6, 1), num(1, 0))})
		}
		return s
	}
	change := func(s api.Stmt) func(d *api.Design) { return func(d *api.Design) { d.Procs[1].Body = s } }
	odd := full(2, 4)
	odd.Items[2].Match[0] = op(api.Not, 2, num(2, 1))
	unknown := full(2, 4)
	unknown.Items[2].Match[0].N = api.Bits{W: 2, V: 2, X: 2}
	signs := full(2, 4)
	signs.Items[3].Match[0].Signed = true
	twice := full(2, 4)
	twice.Items[3].Match[0].N.V = 0
	one := full(2, 1)
	one.Items[0].Match = []api.Expr{num(2, 3), num(2, 1), num(2, 0), num(2, 2), num(2, 3)}
	wild := full(1, 2)
	wild.Kind = api.WildZ
	const v = "var v; comb v = 0;"
	check(t, []row{
		{members: v, want: "- -: 0 1", change: change(full(1, 2))},
		{members: v, want: "latch p1 v", change: change(full(1, 1))},
		{members: v, want: "- -: 0 1", change: change(full(6, 64))},
		{members: v, want: "latch p1 v", change: change(full(6, 63))},
		{members: v, want: "latch p1 v", change: change(full(7, 128))},
		{members: v, want: "latch p1 v", change: change(odd)},
		{members: v, want: "latch p1 v, unknown p1 -", change: change(unknown)},
		{members: v, want: "- -: 0 1", change: change(signs)},
		{members: v, want: "latch p1 v", change: change(twice)},
		{members: v, want: "- -: 0 1", change: change(one)},
		{members: v, want: "latch p1 v", change: change(wild)},
		{members: v, want: "- -: 0 1", change: change(full(7, 0))},
	})
}
