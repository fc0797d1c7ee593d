package elab_test

import (
	"testing"

	"maskwright/api"
)

// P12.9: wires and variables, arrays of them, and their initial values.
func TestDeclarations(t *testing.T) {
	makes(t, `module top (in [3:0] x) {
		wire [1:0] a, b [2:3], c = x, d = x + 1'd1;
		wire signed [7:0] e = signed(x), f = a;
		var signed [1:0] g, h [5:7], i = 1, j [0:0] = 2'b0x;
		wire k = x, l [1023:1023];
	}`, `
		in wire x:4
		wire a:2
		wire b:2 x2
		wire c:2
		wire d:2
		wire e:8s
		wire f:8s
		var g:2s
		var h:2s x3
		var i:2s =2'b01
		var j:2s =2'b0x
		wire k:1
		wire l:1
		cont p0: set c:2 = resize2(x:4)
		cont p1: set d:2 = add2(resize2(x:4), 2'1)
		cont p2: set e:8s = resize8s(x:4)
		cont p3: set f:8s = resize8(a:2)
		cont p4: set k:1 = resize1(x:4)`)
	makes(t, `module top (in [3:0] x) { wire a [2:3]; assign a[2] = x[0]; wire b [7:7]; assign b[7] = a[2 + x]; var c [3:4]; initial c[x] = c[3]; }`, `
		in wire x:4
		wire a:1 x2
		wire b:1
		var c:1 x2
		cont p0: set a[1'0]:1 = slice1@0(x:4)
		cont p1: set b[1'0]:1 = a[sub32(add32(32s'2, resize32(x:4)), 32'2)]:1
		initial p2: set c[sub4(x:4, 4'3)]:1 = c[1'0]:1`)
	built(t, module("var a [0:31];", "wire b [992:1023];"))
	faults(t, within([]fault{
		{"wire n @[1:0];", api.ErrRange, ""}, {"wire n @[0:32];", api.ErrLarge, ""}, {"var n @[1:0];", api.ErrRange, ""}, {"var n @[0:32];", api.ErrLarge, ""}, {"wire n @[1023:1022];", api.ErrRange, ""},
		{"wire n [@1024:0];", api.ErrRange, ""}, {"wire n [1:@1024];", api.ErrRange, ""}, {"wire n [@-1:0];", api.ErrRange, ""}, {"wire n [0:@-1];", api.ErrRange, ""}, {"var n [@x:0];", api.ErrConst, ""},
		{"var n [0:@u];", api.ErrConst, ""}, {"var n [@nobody:someone];", api.ErrNone, "nobody"}, {"var n, o @[2:1], p = nobody;", api.ErrRange, ""},
		{"wire @n [0:0] = 1;", api.ErrType, "n"}, {"wire @n [0:1] = nobody;", api.ErrType, "n"}, {"wire @c [0:1] = 1;", api.ErrType, "c"}, {"wire n @[1:0] = 1;", api.ErrRange, ""},
		{"wire n = @nobody;", api.ErrNone, "nobody"}, {"wire c = @nobody;", api.ErrNone, "nobody"}, {"var c = @nobody;", api.ErrNone, "nobody"}, {"wire n = @wa;", api.ErrType, "wa"}, {"var c @[1:0];", api.ErrRange, ""},
	}))
}

// P12.8: processes have the prefix of their scope, and the number of those before them.
func TestProcesses(t *testing.T) {
	makes(t, `module m (in a, out b) { wire c = a; assign b = c; }
		module top (in clk, in x) {
			var v;
			comb v = x;
			wire w;
			if (1) : g { inst u: m (a = !x, b = w); always delay 1; }
			seq (rise clk, fall x, v) v <= w;
			initial ;
		}`, `
		in wire clk:1
		in wire x:1
		var v:1
		wire w:1
		wire g.u.a:1
		wire g.u.b:1
		wire g.u.c:1
		comb p0: set v:1 = x:1
		cont g.p1: set g.u.a:1 = lnot1(x:1)
		cont g.p2: set w:1 = g.u.b:1
		cont g.u.p3: set g.u.c:1 = g.u.a:1
		cont g.u.p4: set g.u.b:1 = g.u.c:1
		always g.p5: delay 32s'1
		seq p6 (rise clk, fall x, any v): put v:1 = w:1
		initial p7: nop`)
}

// P12.10: targets, and the values that are assigned to their widths.
func TestAssign(t *testing.T) {
	makes(t, within([]fault{{text: `assign y = x + 1; assign cat(w[1:0], r.hi[3], wa[2]) = cat(x, x); assign w[3:2] = x; assign wa[1][c - 4 +: 2] = -x; assign l.d[1] = x[0];`}})[0].text, `
		in wire clk:1
		in wire x:4
		out wire y:4
		out var z:4
		in wire pv.d:2
		in wire pv.k:1
		wire w:4
		wire wa:4 x2
		var v:8
		var va:8 x2
		wire r:5
		wire l.d:2
		wire l.k:1
		cont p0: set y:4 = add4(x:4, 4'1)
		cont p1: set cat7(slice2@0(w:4), slice1@4(r:5), wa[1'1]:4) = resize7(cat8(x:4, x:4))
		cont p2: set slice2@2(w:4) = resize2(x:4)
		cont p3: set slice2@1(wa[1'0]:4) = neg2(resize2(x:4))
		cont p4: set slice1@1(l.d:2) = slice1@0(x:4)`)
	faults(t, within([]fault{
		{"assign @nobody = 1;", api.ErrNone, "nobody"}, {"assign @c = 1;", api.ErrType, "c"}, {"assign @wa = 1;", api.ErrType, "wa"}, {"assign @l = 1;", api.ErrType, "l"}, {"assign @F = 1;", api.ErrType, "F"}, {"assign @l.no = 1;", api.ErrNone, "l.no"}, {"assign w = @nobody;", api.ErrNone, "nobody"},
		{"assign w[@4] = 1;", api.ErrRange, ""},
		// The target comes before the value.
		{"assign @nobody = someone;", api.ErrNone, "nobody"}, {"assign @x = someone;", api.ErrType, "x"}, {"assign w[@x] = someone;", api.ErrConst, ""},
	}))
}

// P12.10: what a target cannot name, for each place in it.
func TestForbiddenTargets(t *testing.T) {
	faults(t, within([]fault{
		// In ports of the design, and signals of a group with the direction in.
		{"assign @x = 1;", api.ErrType, "x"}, {"assign @x[0] = 1;", api.ErrType, "x"}, {"assign @x[1:0] = 1;", api.ErrType, "x"}, {"assign @x[x +: 2] = 1;", api.ErrType, "x"}, {"initial @x = 1;", api.ErrType, "x"}, {"seq (rise clk) @x <= 1;", api.ErrType, "x"},
		{"assign @pv.d = 1;", api.ErrType, "pv"}, {"assign @pv.d[0] = 1;", api.ErrType, "pv"}, {"assign @pv.d[1:0] = 1;", api.ErrType, "pv"}, {"comb @pv.k = 1;", api.ErrType, "pv"},
		// Variables in a Cont, wires in all others.
		{"assign @v = 1;", api.ErrType, "v"}, {"assign @v[1] = 1;", api.ErrType, "v"}, {"assign @va[2] = 1;", api.ErrType, "va"}, {"assign @va[2][1:0] = 1;", api.ErrType, "va"}, {"assign @z = 1;", api.ErrType, "z"},
		{"comb @w = 1;", api.ErrType, "w"}, {"seq (rise clk) @w <= 1;", api.ErrType, "w"}, {"always @w = 1;", api.ErrType, "w"}, {"initial @w[1] = 1;", api.ErrType, "w"}, {"initial @wa[x] = 1;", api.ErrType, "wa"}, {"initial @r.hi = 1;", api.ErrType, "r"}, {"initial @l.k = 1;", api.ErrType, "l"}, {"initial @y = 1;", api.ErrType, "y"},
		// In their order, behind the faults of chapter 10.
		{"assign cat(w, @x, v) = 1;", api.ErrType, "x"}, {"assign cat(cat(w, @v), x) = 1;", api.ErrType, "v"}, {"assign cat(x, @nobody) = 1;", api.ErrNone, "nobody"}, {"assign cat(x, w[@4]) = 1;", api.ErrRange, ""}, {"assign @cat(wa[1], x, w, w, w, w, w, w, w, w, w, w, w, w, w, w, w) = 1;", api.ErrLarge, ""},
		{"initial cat(v, @x) = nobody;", api.ErrType, "x"}, {"initial cat(v, z, @y) <= 1;", api.ErrType, "y"},
	}))
	// Ports of instances.
	faults(t, []fault{
		{"module m (in a) { assign @a = 1; } module top () { wire x; inst u: m (a = x); }", api.ErrType, "a"},
		{"module m (in a) { assign @a = 1; } module top () { wire x; inst u: m (a = !x); }", api.ErrType, "a"},
		{"module m (in a) { initial @a = 1; } module top () { var x; inst u: m (a = x); }", api.ErrType, "a"},
		{"module m (in [1:0] a) { initial @a[0] = 1; } module top () { var [1:0] x; inst u: m (a = x); }", api.ErrType, "a"},
		{"module m (out a) { initial @a = 1; } module top () { inst u: m (); }", api.ErrType, "a"},
		{"module m (out var a) { assign @a = 1; } module top () { inst u: m (); }", api.ErrType, "a"},
		{"interface i { wire a; view v (in a); } module m (i.v p) { assign @p.a = 1; } module top () { link l: i; assign l.a = 1; inst u: m (p = l); }", api.ErrType, "p"},
		{"interface i { wire a; view v (out a); } module m (i.v p) { initial @p.a = 1; } module top () { link l: i; inst u: m (p = l); }", api.ErrType, "p"},
	})
	makes(t, `interface i { wire a; wire b; view v (out a, in b); } module m (in x, out a, out var b, i.v p) { assign a = x; initial b = x; assign p.a = p.b; } module top () { link l: i; wire w; inst u: m (x = w, p = l); assign w = l.a; assign l.b = w; }`, `
		wire l.a:1
		wire l.b:1
		wire w:1
		wire u.a:1
		var u.b:1
		cont u.p0: set u.a:1 = w:1
		initial u.p1: set u.b:1 = w:1
		cont u.p2: set l.a:1 = l.b:1
		cont p3: set w:1 = l.a:1
		cont p4: set l.b:1 = w:1`)
}

// P12.10: in a Cont all indices are constants; the last one of a place is looked at first.
func TestConstantIndices(t *testing.T) {
	faults(t, within([]fault{
		{"assign w[@x] = 1;", api.ErrConst, ""}, {"assign w[@x +: 2] = 1;", api.ErrConst, ""}, {"assign wa[@x] = 1;", api.ErrConst, ""}, {"assign wa[@x][1] = 1;", api.ErrConst, ""}, {"assign wa[x][@x] = 1;", api.ErrConst, ""}, {"assign wa[x][@v +: 1] = 1;", api.ErrConst, ""}, {"assign wa[@x][1:0] = 1;", api.ErrConst, ""}, {"assign wa[@now] = 1;", api.ErrConst, ""},
		{"assign wa[@F(x)] = 1;", api.ErrConst, ""}, {"assign cat(w[1], w[@x], wa[x]) = 1;", api.ErrConst, ""}, {"assign cat(w[@x], x) = 1;", api.ErrConst, ""}, {"assign cat(@x, w[x]) = 1;", api.ErrType, "x"}, {"assign @x[x] = 1;", api.ErrType, "x"}, {"assign @v[x] = 1;", api.ErrType, "v"},
		{"inst m: M (a = x, v = l, b = w[@x +: 2]);", api.ErrConst, ""},
	}))
	makes(t, module("wire [3:0] w [0:1];", "wire [7:0] v;", "const k = 1;", "function f(a) { f = a; }", "assign w[k][f(1) + 1 +: 2] = 0;", "assign v[width(w[0]) + log(8)] = 0;", "var [3:0] a [0:1];", "initial a[v][v +: 2] = 0;"), `
		wire w:4 x2
		wire v:8
		var a:4 x2
		func f0/1 (var a:1, var f:1) block {set %f:1 = %a:1}
		cont p0: set slice2@2(w[1'1]:4) = 2s'0
		cont p1: set slice1@7(v:8) = 1s'0
		initial p2: set part2(a[v:8]:4, v:8) = 2s'0`)
}

// P12.10: a process has its edges, and its statement.
func TestEdges(t *testing.T) {
	makes(t, `interface i { wire a; view v (in a); } module m (in e, i.v p) { var w; seq (e, rise p.a) w <= 1; }
		module top (in c, i.v p) { wire [3:0] w; var v; inst u: m (e = v, p = p); link l: i; seq (w, rise v, fall c, l.a, p.a) ; always on (rise w, v); }`, `
		in wire c:1
		in wire p.a:1
		wire w:4
		var v:1
		var u.w:1
		wire l.a:1
		seq u.p0 (any v, rise p.a): put u.w:1 = 1s'1
		seq p1 (any w, rise v, fall c, any l.a, any p.a): nop
		always p2: on rise w, any v`)
	for _, s := range []string{"seq (#) ;", "seq (clk, rise #) ;", "seq (fall #, nobody) ;", "initial on (#);", "always { ; on (rise clk, fall #); }", "property q (rise #) 1 -> 1;"} {
		for _, f := range []fault{
			{"@x[0]", api.ErrType, "x"}, {"@x[1:0]", api.ErrType, "x"}, {"@x[x +: 1]", api.ErrType, "x"}, {"@va[2]", api.ErrType, "va"}, {"@r.hi", api.ErrType, "r"}, {"@l.d[0]", api.ErrType, "l"}, {"@c", api.ErrType, "c"}, {"@cat(clk)", api.ErrType, ""}, {"@va", api.ErrType, "va"}, {"@nobody", api.ErrNone, "nobody"}, {"@l", api.ErrType, "l"}, {"@l.no", api.ErrNone, "l.no"}, {"@F", api.ErrType, "F"}, {"x[@9]", api.ErrRange, ""},
		} {
			f.text = replaced(s, f.text)
			faults(t, within([]fault{f}))
		}
	}
	faults(t, within([]fault{{"seq (@nobody) someone = 1;", api.ErrNone, "nobody"}, {"seq (clk) @someone = 1;", api.ErrNone, "someone"}}))
}
