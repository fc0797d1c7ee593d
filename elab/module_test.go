package elab_test

import (
	"fmt"
	"strconv"
	"strings"
	"testing"

	"maskwright/api"
	"maskwright/elab"
)

// P12.11: parameters are constants with the values that are given, in the scope of the instance, or with their own.
func TestParameters(t *testing.T) {
	makes(t, `const g = 1;
		module m #(a = 2, b = a + g, c = 4'd9) () { var [7:0] v = a, w = b, x = c; var [width(a)-1:0] y; var [width(c)-1:0] z; initial v = a + 8'sd0; }
		module top () { const g = 5; inst p: m (); inst q: m #(c = -2'sd1, a = g) (); inst r: m #(b = 3'd7) (); }`, `
		var p.v:8 =8'b00000010
		var p.w:8 =8'b00000011
		var p.x:8 =8'b00001001
		var p.y:32
		var p.z:4
		var q.v:8 =8'b00000101
		var q.w:8 =8'b00000110
		var q.x:8 =8'b11111111
		var q.y:32
		var q.z:2
		var r.v:8 =8'b00000010
		var r.w:8 =8'b00000111
		var r.x:8 =8'b00001001
		var r.y:32
		var r.z:4
		initial p.p0: set p.v:8 = add8s(8s'2, 8s'0)
		initial q.p1: set q.v:8 = add8s(8s'5, 8s'0)
		initial r.p2: set r.v:8 = add8s(8s'2, 8s'0)`)
	// Only the values that are not given are looked at.
	built(t, "module m #(a = nobody) () { wire [a:0] w; } module top () { inst u: m #(a = 1) (); }")
	faults(t, within([]fault{
		{"inst n: M #(@no = nobody) (a = x, v = l);", api.ErrNone, "no"}, {"inst n: M #(p = 1, @p = nobody) (a = x, v = l);", api.ErrTwice, "p"}, {"inst n: M #(p = @x) (a = x, v = l);", api.ErrConst, ""}, {"inst n: M #(q = @x, no = 1) (a = x, v = l);", api.ErrConst, ""}, {"inst n: M #(@a = 1) (a = x, v = l);", api.ErrNone, "a"},
		{"link n: I #(@no = nobody);", api.ErrNone, "no"}, {"link n: I #(n = 1, @n = nobody);", api.ErrTwice, "n"}, {"link n: I #(n = @x);", api.ErrConst, ""}, {"link n: I #(@d = 1);", api.ErrNone, "d"},
	}))
	faults(t, []fault{
		{"module m #(a = @nobody) () { } module top () { inst u: m (); }", api.ErrNone, "nobody"}, {"module m #(a = @x) () { } module top () { wire x; inst u: m (); }", api.ErrNone, "x"}, {"module m #(a = @b, b = 1) () { } module top () { inst u: m #(b = 1) (); }", api.ErrNone, "b"},
		{"interface i #(a = @nobody) { } module top () { link u: i; }", api.ErrNone, "nobody"},
		{"module top #(a = 1, b = @nobody) () { }", api.ErrNone, "nobody"},
	})
}

// P12.11: a PortIn stands for the signal that it is connected to, if this looks the same, and is a wire otherwise.
func TestPortIn(t *testing.T) {
	const ports = "module m (in [3:0] a, in signed [3:0] b) { wire c = a[0] & b[1]; } "
	alias := func(a, b string) {
		t.Helper()
		makes(t, ports+"module top (in [3:0] x) { wire signed [3:0] s; inst u: m (a = "+a+", b = "+b+"); }", `
			in wire x:4
			wire s:4s
			wire u.c:1
			cont u.p0: set u.c:1 = and1(slice1@0(x:4), slice1@1(s:4s))`)
	}
	alias("x", "s")
	alias("+x", "+(+s)")
	alias("size(4, x)", "signed(s)")
	alias("unsigned(x)", "size(4, size(4, s))")
	makes(t, ports+"module top (in [3:0] x) { wire signed [3:0] s; inst u: m (b = x, a = s); }", `
		in wire x:4
		wire s:4s
		wire u.a:4
		wire u.b:4s
		wire u.c:1
		cont p0: set u.a:4 = s:4s
		cont p1: set u.b:4s = x:4
		cont u.p2: set u.c:1 = and1(slice1@0(u.a:4), slice1@1(u.b:4s))`)
	// The type of the port counts where it stands for another signal: its sign, and the numbers of its bits.
	makes(t, `struct f { [1:0] a; [1:0] b; } module m (in signed [10:7] a, in f b) { wire signed [7:0] c = a; wire d = a[10], e = b.a[1]; }
		module top (in [3:0] x) { inst u: m (a = signed(x), b = x); }`, `
		in wire x:4
		wire u.c:8s
		wire u.d:1
		wire u.e:1
		cont u.p0: set u.c:8s = resize8s(x:4s)
		cont u.p1: set u.d:1 = slice1@3(x:4s)
		cont u.p2: set u.e:1 = slice1@3(x:4)`)
	for connection, value := range map[string]string{
		"x[3:0]": "slice4@0(x:5)", "x": "resize4(x:5)", "-x": "neg4(resize4(x:5))", "x[4]": "resize4(slice1@4(x:5))", "v[1]": "v[1'1]:4", "5": "4s'5", "now": "resize4(now64())", "cat(x)": "resize4(cat5(x:5))", "w ? w : w": "cond4(w:4, w:4, w:4)", "!w": "resize4(lnot1(w:4))", "s": "s:4s", "size(4, x)": "resize4(x:5)", "z": "resize4(z:3)", "signed(z)": "resize4s(z:3)",
	} {
		makes(t, "module m (in [3:0] a) { } module top (in [4:0] x, in [2:0] z) { wire [3:0] w; wire signed [3:0] s; var [3:0] v [0:1]; inst u: m (a = "+connection+"); }", `
			in wire x:5
			in wire z:3
			wire w:4
			wire s:4s
			var v:4 x2
			wire u.a:4
			cont p0: set u.a:4 = `+value)
	}
	faults(t, within([]fault{
		{"@inst n: M (v = l);", api.ErrNone, "a"}, {"inst n: M (a = @nobody, v = l);", api.ErrNone, "nobody"}, {"inst n: M (v = l, a = @p);", api.ErrNone, "p"}, {"inst n: M (a = @l, v = l);", api.ErrType, "l"}, {"inst n: M (a = @wa, v = l);", api.ErrType, "wa"},
	}))
	// In this order: the type, that there is a connection, its value, and the name.
	faults(t, []fault{
		{"module m (in @t a) { } module top () { inst u: m (); }", api.ErrNone, "t"}, {"module m #(a = 1) (in a) { } module top () { @inst u: m (); }", api.ErrNone, "a"}, {"module m #(a = 1) (in a) { } module top () { inst u: m (a = @x); }", api.ErrNone, "x"}, {"module m #(a = 1) (@in a) { } module top () { wire x; inst u: m (a = x); }", api.ErrTwice, "a"},
	})
}

// P12.11: PortOut and PortVar, and the targets that they are connected to.
func TestPortOut(t *testing.T) {
	makes(t, `module m #(n = 2) (out [n:0] a, out signed b, out var signed [1:0] c = n, out var d) { assign a = c; }
		module top (out [7:0] q) { wire [7:0] w; wire v [1:1]; inst u: m (c = w[3 +: 4], a = cat(v[1], q[1:0]), b = q[7:4]); inst r: m #(n = 0) (d = q[2]); inst s: m (); }`, `
		out wire q:8
		wire w:8
		wire v:1
		wire u.a:3
		wire u.b:1s
		var u.c:2s =2'b10
		var u.d:1
		wire r.a:1
		wire r.b:1s
		var r.c:2s =2'b00
		var r.d:1
		wire s.a:3
		wire s.b:1s
		var s.c:2s =2'b10
		var s.d:1
		cont p0: set cat3(v[1'0]:1, slice2@0(q:8)) = u.a:3
		cont p1: set slice4@4(q:8) = resize4s(u.b:1s)
		cont p2: set slice4@3(w:8) = resize4s(u.c:2s)
		cont u.p3: set u.a:3 = resize3s(u.c:2s)
		cont p4: set slice1@2(q:8) = r.d:1
		cont r.p5: set r.a:1 = resize1s(r.c:2s)
		cont s.p6: set s.a:3 = resize3s(s.c:2s)`)
	faults(t, within([]fault{
		{"inst n: M (a = x, v = l, b = @x);", api.ErrType, "x"}, {"inst n: M (a = x, v = l, b = @v);", api.ErrType, "v"}, {"inst n: M (a = x, v = l, b = @c);", api.ErrType, "c"}, {"inst n: M (a = x, v = l, b = @1);", api.ErrType, ""}, {"inst n: M (a = x, v = l, b = @w + w);", api.ErrType, ""},
		{"inst n: M (a = x, v = l, c = @nobody);", api.ErrNone, "nobody"}, {"inst n: M (a = x, v = l, b = cat(w, @1));", api.ErrType, ""}, {"inst n: M (a = x, v = l, b = cat(w, @v));", api.ErrType, "v"}, {"inst n: M (a = x, v = l, b = @pv.d);", api.ErrType, "pv"}, {"inst n: M (a = x, v = l, b = w[@9]);", api.ErrRange, ""},
		{"inst n: M (a = x, v = l, b = wa[@x]);", api.ErrConst, ""}, {"inst n: M (a = x, v = l, b = @wa);", api.ErrType, "wa"}, {"inst n: M (a = x, v = l, b = @F(x));", api.ErrType, ""}, {"inst n: M (a = x, v = l, b = @b);", api.ErrNone, "b"},
	}))
	built(t, within([]fault{{text: "inst n: M (a = x, v = l, b = (w), c = cat(y));"}})[0].text)
	// In this order: the type, the initial value, the name, and the target.
	faults(t, []fault{
		{"module m #(a = 1) (out var @t a = nobody) { } module top () { inst u: m (); }", api.ErrNone, "t"},
		{"module m #(a = 1) (out var a = @nobody) { } module top () { inst u: m (); }", api.ErrNone, "nobody"},
		{"module m #(a = 1) (@out var a = 1) { } module top () { inst u: m (a = 1); }", api.ErrTwice, "a"},
		{"module m (out a, out t b) { } module top () { inst u: m (a = @1); }", api.ErrType, ""},
		{"module m (in @[0:1] a, out b) { } module top () { inst u: m (b = 1, a = nobody); }", api.ErrRange, ""},
		{"module m (out a, in b) { } module top () { inst u: m (b = nobody, a = @someone); }", api.ErrNone, "someone"},
	})
}

// P12.11: what is looked at before a module is made, and where its own faults are.
func TestInst(t *testing.T) {
	faults(t, within([]fault{
		{"inst c: @no #(p = nobody) ();", api.ErrNone, "no"}, {"inst c: @I ();", api.ErrNone, "I"}, {"inst c: @x ();", api.ErrNone, "x"},
		{"inst c: M #(@no = 1) (no = 1);", api.ErrNone, "no"}, {"inst c: M (@no = nobody);", api.ErrNone, "no"}, {"inst c: M (a = nobody, @a = nobody);", api.ErrTwice, "a"}, {"inst c: M (a = nobody, @no = 1, a = 1);", api.ErrNone, "no"}, {"inst c: M (@p = 1);", api.ErrNone, "p"},
		{"inst c: M #(p = @nobody) (no = 1);", api.ErrNone, "nobody"}, {"@inst c: M (a = nobody);", api.ErrTwice, "c"}, {"@inst c: M ();", api.ErrTwice, "c"},
		{"inst n: M (a = x, v = l); inst n2: M (a = x, v = l); @inst n: M ();", api.ErrTwice, "n"},
	}))
	faults(t, []fault{
		{"module m () { wire [@n:0] a; } module top () { const n = 1; inst u: m (); }", api.ErrNone, "n"},
		{"module m (in a) { assign nobody = a; } module top () { inst u: @n (); inst v: m (); }", api.ErrNone, "n"},
		{"module m (in a) {\n assign @nobody = a; } module top (in x) { inst u: m (a = x); }", api.ErrNone, "nobody"},
		{"module m () { } module top () { inst m: m (); @inst m: m (); }", api.ErrTwice, "m"},
	})
}

// levels returns the text of n modules within one another, in blocks, of which the last one has some members.
func levels(n int, members string) string {
	s := "module m" + strconv.Itoa(n) + " () { " + members + " } "
	for i := n - 1; i > 0; i-- {
		s += fmt.Sprintf("module m%d () { if (1) : b { for (i = 0 to 0) : c { inst u: m%d (); } } } ", i, i+1)
	}
	return strings.Replace(s, "module m1 ", "module top ", 1)
}

// P12.11: modules within one another, the top included.
func TestLevels(t *testing.T) {
	for n := range elab.MaxLevels {
		built(t, levels(n+1, ""))
	}
	faults(t, []fault{
		{strings.Replace(levels(elab.MaxLevels+1, ""), "inst u: m17 ", "@inst u: m17 ", 1), api.ErrLoop, "m17"},
		{strings.Replace(levels(elab.MaxLevels+1, "wire w = nobody;"), "inst u: m17 ", "@inst u: m17 ", 1), api.ErrLoop, "m17"},
		{strings.Replace(levels(elab.MaxLevels+1, ""), "inst u: m17 ", "const u = 1; @inst u: m17 ", 1), api.ErrTwice, "u"},
		{"module top () { @inst u: top (); }", api.ErrLoop, "top"},
		{"module top () { inst u: m (); } module m () { @inst u: top (); }", api.ErrLoop, "top"},
	})
	// A module can be within itself, as long as this ends.
	makes(t, "module top #(n = 3) () { wire [n:0] w; if (n > 0) : g { inst u: top #(n = n - 1) (); } }", `
		wire w:4
		wire g.u.w:3
		wire g.u.g.u.w:2
		wire g.u.g.u.g.u.w:1`)
	built(t, "module top #(n = 16) () { wire w; if (n > 1) : g { inst u: top #(n = n - 1) (); } }")
	fault{"module top #(n = 17) () { wire w; if (n > 1) : g { @inst u: top #(n = n - 1) (); } }", api.ErrLoop, "top"}.check(t)
}
