package elab_test

import (
	"testing"

	"maskwright/api"
)

// P12.3: constants have the own values and signs of their expressions.
func TestConst(t *testing.T) {
	makes(t, `const a = 3'd5 + 3'd4; const b = -2'sd1; const c = 4'bx01z; const d = cat(a, b);
		module top (in [7:0] x) { const e = width(x) + log(9); var signed [7:0] v = b; initial { v = a; v = b; v = c; v = d; v = e + 64'd0; v = d[1]; } }`, `
		in wire x:8
		var v:8s =8'b11111111
		initial p0: block {set v:8s = 8'1} {set v:8s = 8s'255} {set v:8s = 8:8'b0000x01z} {set v:8s = 8'7} {set v:8s = add8(8'12, 8'0)} {set v:8s = resize8(slice1@1(5'7))}`)
	faults(t, within([]fault{
		{"const k = @x;", api.ErrConst, ""},
		{"const k = @x + 1;", api.ErrConst, ""},
		{"const k = @x[0];", api.ErrConst, ""},
		{"const k = @now;", api.ErrConst, ""},
		{"const k = @F(x);", api.ErrConst, ""},
		{"const k = @nobody;", api.ErrNone, "nobody"},
		{"const k = 1 + c[@40];", api.ErrRange, ""},
		{"const k = @wa;", api.ErrType, "wa"},
	}))
	// The value comes before the name.
	faults(t, within([]fault{{"const c = @x;", api.ErrConst, ""}}))
}

// P12.3: initial values are extended with their own sign, or cut; they are not computed with more bits.
func TestAssignedConstants(t *testing.T) {
	makes(t, `module top (out var [3:0] a = 2'd3 + 2'd1, out var signed [3:0] b = 2'd3, out var [3:0] c = 2'sd3, out var [3:0] d = 8'hf5, out var [3:0] e = 2'bxz, out var [3:0] f = 2'sbxz, out var [3:0] g) {
		var [3:0] h = -1, i [0:1] = 2'sd2, j [3:3] = 9; }`, `
		out var a:4 =4'b0000
		out var b:4s =4'b0011
		out var c:4 =4'b1111
		out var d:4 =4'b0101
		out var e:4 =4'b00xz
		out var f:4 =4'bxxxz
		out var g:4
		var h:4 =4'b1111
		var i:4 x2 =4'b1110 =4'b1110
		var j:4 =4'b1001`)
	faults(t, within([]fault{
		{"var a = @x;", api.ErrConst, ""}, {"var a = @now;", api.ErrConst, ""}, {"var a [1:2] = @x;", api.ErrConst, ""}, {"var a = @nobody;", api.ErrNone, "nobody"},
		{"var a = 1, b = @a;", api.ErrConst, ""},
	}))
	faults(t, []fault{{"module top (in x, out var a = @x) { }", api.ErrConst, ""}})
}

// P12.4: types.
func TestTypes(t *testing.T) {
	makes(t, `const n = 3; enum [5:4] e { i } struct s { [n:1] f; e g; signed h; }
		module top (in a, in [0:0] b, in [n+4:n] c, in signed d, in signed [1023:960] e1, in e f, in s g) {
		wire h = c[3], i1 = f[5], j = g.f[3], k = g.g[4], l = g.h, m = g[0], o = e1[1023], p = d[0]; wire signed [7:0] q = d, r = g.h, u = g.f; }`, `
		in wire a:1
		in wire b:1
		in wire c:5
		in wire d:1s
		in wire e1:64s
		in wire f:2
		in wire g:6
		wire h:1
		wire i1:1
		wire j:1
		wire k:1
		wire l:1
		wire m:1
		wire o:1
		wire p:1
		wire q:8s
		wire r:8s
		wire u:8s
		cont p0: set h:1 = slice1@0(c:5)
		cont p1: set i1:1 = slice1@1(f:2)
		cont p2: set j:1 = slice1@5(g:6)
		cont p3: set k:1 = slice1@1(g:6)
		cont p4: set l:1 = slice1s@0(g:6)
		cont p5: set m:1 = slice1@0(g:6)
		cont p6: set o:1 = slice1@63(e1:64s)
		cont p7: set p:1 = slice1@0(d:1s)
		cont p8: set q:8s = resize8s(d:1s)
		cont p9: set r:8s = resize8s(slice1s@0(g:6))
		cont p10: set u:8s = resize8(slice3@3(g:6))`)
	faults(t, within([]fault{
		{"wire @[0:1] n;", api.ErrRange, ""}, {"wire @[64:0] n;", api.ErrLarge, ""}, {"wire @[1023:959] n;", api.ErrLarge, ""}, {"wire signed @[64:0] n;", api.ErrLarge, ""},
		{"wire [@1024:0] n;", api.ErrRange, ""}, {"wire [@1024:1000] n;", api.ErrRange, ""}, {"wire [1:@-1] n;", api.ErrRange, ""}, {"wire [@-1:-1] n;", api.ErrRange, ""}, {"wire [1:@1024] n;", api.ErrRange, ""},
		{"wire [@x:0] n;", api.ErrConst, ""}, {"wire [1:@x] n;", api.ErrConst, ""}, {"wire [@2'b1x:0] n;", api.ErrConst, ""}, {"wire [1:@u] n;", api.ErrConst, ""},
		{"wire [@x:u] n;", api.ErrConst, ""}, {"wire [@nobody:0] n;", api.ErrNone, "nobody"}, {"wire [0:@nobody] n;", api.ErrNone, "nobody"},
		{"wire @nobody n;", api.ErrNone, "nobody"}, {"wire @c n;", api.ErrNone, "c"}, {"wire @x n;", api.ErrNone, "x"}, {"wire @F n;", api.ErrNone, "F"}, {"wire @l n;", api.ErrNone, "l"}, {"wire @ea n;", api.ErrNone, "ea"}, {"wire @M n;", api.ErrNone, "M"}, {"wire @I n;", api.ErrNone, "I"},
		// The type comes before all names.
		{"wire @nobody c;", api.ErrNone, "nobody"}, {"var @nobody c;", api.ErrNone, "nobody"}, {"wire @[0:1] c [2:1];", api.ErrRange, ""},
	}))
	faults(t, []fault{
		{"module top (in @nobody a) { }", api.ErrNone, "nobody"}, {"module top (out @[0:1] a) { }", api.ErrRange, ""}, {"module top (out var @[99:1] a = 1) { }", api.ErrLarge, ""},
		{"struct s { [1:0] a; @t b; } module top () { }", api.ErrNone, "t"}, {"function @t f() { } module top () { }", api.ErrNone, "t"}, {"function f(@t a) { } module top () { }", api.ErrNone, "t"}, {"enum @[1:2] e { a } module top () { }", api.ErrRange, ""},
		{"interface i { wire @t a; } module top () { link l: i; }", api.ErrNone, "t"},
	})
}

// P12.5: items of an enumeration are constants of its type; their numbers go on from the last one.
func TestEnum(t *testing.T) {
	makes(t, `enum [4:2] e { a, b, c = 5, d, f = b + 1, g = 0 + 7 } enum [63:0] w { m = 64'h4000000000000000, n } const k = d[4];
		module top () { var e v = g; initial { v = a; v = b; v = c; v = d; v = f; v = a + b + 4'd0; v = k; v = d[4:3]; } initial cat(v, v) = n + 64'd0; }`, `
		var v:3 =3'b111
		initial p0: block {set v:3 = 3'0} {set v:3 = 3'1} {set v:3 = 3'5} {set v:3 = 3'6} {set v:3 = 3'2} {set v:3 = add3(add3(3'0, 3'1), 3'0)} {set v:3 = 3'1} {set v:3 = resize3(slice2@1(3'6))}
		initial p1: set cat6(v:3, v:3) = add6(6'1, 6'0)`)
	faults(t, within([]fault{
		{"enum [0:0] n { i, j, @k }", api.ErrRange, "k"}, {"enum [1:1] n { i = 1, @j }", api.ErrRange, "j"}, {"enum [2:0] n { @i = 8 }", api.ErrRange, "i"}, {"enum [62:0] n { i = 64'h4000000000000000, j, k = @64'h4000000000000001 }", api.ErrRange, ""},
		{"enum [61:0] n { @i = 64'h4000000000000000 }", api.ErrRange, "i"}, {"enum [2:0] n { i = @-1 }", api.ErrRange, ""}, {"enum [2:0] n { i = @x }", api.ErrConst, ""}, {"enum [2:0] n { i = @u }", api.ErrConst, ""}, {"enum [2:0] n { i = @nobody }", api.ErrNone, "nobody"},
		{"enum [2:0] n { i, @j = 0 }", api.ErrTwice, "j"}, {"enum [2:0] n { i = 1, j = 0, @k }", api.ErrTwice, "k"}, {"enum [2:0] n { i = 3, j, k = 3 + 2 , @o = 4 }", api.ErrTwice, "o"},
		// In this order: the range, the name, and of each item its constant, that it fits, that it is new, and its name.
		{"enum @[0:1] c { i }", api.ErrRange, ""}, {"@enum [0:0] c { i = x }", api.ErrTwice, "c"}, {"enum [0:0] n { c = @x }", api.ErrConst, ""}, {"enum [0:0] n { i, j, @c }", api.ErrRange, "c"}, {"enum [0:0] n { i, @c = 0 }", api.ErrTwice, "c"}, {"enum [0:0] n { i, @c, j }", api.ErrTwice, "c"},
		{"enum [0:0] n { @c, j = x }", api.ErrTwice, "c"},
	}))
}

// P12.6: the fields of a structure, the first one at the upper end.
func TestStruct(t *testing.T) {
	makes(t, `struct s { [9:8] a; signed [2:0] b; c; } struct t { s d; s e; } struct all { [63:32] a; [31:0] b; }
		module top (in t x) { wire [1:0] a = x.d.a; wire signed [3:0] b = x.e.b; wire c = x.d.c, d = x.d[5], e = x[0], f = x.e.a[9]; wire s g; assign g.b[1] = 1; assign g.a = 2; wire all h; wire [31:0] i = h.a; wire signed [7:0] j = g; }`, `
		in wire x:12
		wire a:2
		wire b:4s
		wire c:1
		wire d:1
		wire e:1
		wire f:1
		wire g:6
		wire h:64
		wire i:32
		wire j:8s
		cont p0: set a:2 = slice2@10(x:12)
		cont p1: set b:4s = resize4s(slice3s@1(x:12))
		cont p2: set c:1 = slice1@6(x:12)
		cont p3: set d:1 = slice1@11(x:12)
		cont p4: set e:1 = slice1@0(x:12)
		cont p5: set f:1 = slice1@5(x:12)
		cont p6: set slice1@2(g:6) = 1s'1
		cont p7: set slice2@4(g:6) = 2s'2
		cont p8: set i:32 = slice32@32(h:64)
		cont p9: set j:8s = resize8(g:6)`)
	faults(t, within([]fault{
		{"struct n { a; [1:0] b; @a; }", api.ErrTwice, "a"}, {"struct n { [63:0] a; @b; }", api.ErrLarge, "b"}, {"struct n { [31:0] a; [30:0] b; @[1:0] d; }", api.ErrLarge, "d"},
		// In this order: the type, the name of a field, the width, and the name of the structure.
		{"struct n { a; @[0:1] a; }", api.ErrRange, ""}, {"struct n { [63:0] a; @a; }", api.ErrTwice, "a"}, {"struct c { a; @a; }", api.ErrTwice, "a"}, {"struct c { [63:0] a; @b; }", api.ErrLarge, "b"},
		{"wire n = @r.no;", api.ErrNone, "no"}, {"wire n = @E.hi;", api.ErrNone, "E"}, {"assign r.lo[@1] = 1;", api.ErrRange, ""},
	}))
}
