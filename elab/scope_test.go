package elab_test

import (
	"testing"

	"maskwright/api"
)

// The example of the chapter.
func TestExample(t *testing.T) {
	makes(t, "module top (in [1:0] a, out [2:0] q) { assign q = a + 3; }", `
		in wire a:2
		out wire q:3
		cont p0: set q:3 = add3(resize3(a:2), 3'3)`)
}

// P12.1: a name can be used from the end of its declaration on, and not before.
func TestFirstUse(t *testing.T) {
	makes(t, "const b = 2; const a = b; module top #(p = a, q = p + 1) (in [q:0] x, out [width(x)-1:0] y) { wire s = x[0], t = s; var v [1:q] = p; }", `
		in wire x:4
		out wire y:4
		wire s:1
		wire t:1
		var v:1 x3 =1'b0 =1'b0 =1'b0
		cont p0: set s:1 = slice1@0(x:4)
		cont p1: set t:1 = s:1`)
	faults(t, within([]fault{
		{"const k2 = @k2;", api.ErrNone, "k2"},
		{"const k3 = @k2; const k2 = 1;", api.ErrNone, "k2"},
		{"wire n = @n;", api.ErrNone, "n"},
		{"wire n [0:@n];", api.ErrNone, "n"},
		{"wire [@n:0] n;", api.ErrNone, "n"},
		{"var n = @n;", api.ErrNone, "n"},
		{"wire n = @o, o;", api.ErrNone, "o"},
		{"enum [@n:0] n { i }", api.ErrNone, "n"},
		{"enum [1:0] n { i = @i }", api.ErrNone, "i"},
		{"enum [1:0] n { i = @j, j }", api.ErrNone, "j"},
		{"struct n { @n a; }", api.ErrNone, "n"},
		{"wire @n a; struct n { b; }", api.ErrNone, "n"},
		{"function @n n() { }", api.ErrNone, "n"},
		{"function [@n():0] n() { }", api.ErrNone, "n"},
		{"assign w = @G(); function G() { G = 1; }", api.ErrNone, "G"},
		{"link n: I #(n = @n);", api.ErrNone, "n"},
		{"assign w = @n.k; link n: I;", api.ErrNone, "n"},
		{"inst m: M (a = @n, v = l); wire [3:0] n;", api.ErrNone, "n"},
		{"for (i = @i to 2) : g { }", api.ErrNone, "i"},
		{"for (i = 0 to @i) : g { }", api.ErrNone, "i"},
		{"if (@g) : g { }", api.ErrNone, "g"},
		{"initial for (i = 0 to @i) ;", api.ErrNone, "i"},
		{"property n (rise clk) @n -> 1;", api.ErrNone, "n"},
	}))
	faults(t, []fault{
		{"const a = @b; const b = 1; module top () { }", api.ErrNone, "b"},
		{"module top #(a = 1, b = @c, c = 1) () { }", api.ErrNone, "c"},
		{"module top (in [@p:0] a) { const p = 1; }", api.ErrNone, "p"},
		{"module top (in a, out [@b:0] b) { }", api.ErrNone, "b"},
		{"interface i { wire [1:0] a; wire [@c-1:0] b; wire c; } module top () { link l: i; }", api.ErrNone, "c"},
		{"interface i { wire a; } module top () { const n = 1; link l: i; wire w = l.a; } const m = @n;", api.ErrNone, "n"},
	})
}

// P12.1: modules and interfaces can be used before, and where other things have their names.
func TestModulesEverywhere(t *testing.T) {
	makes(t, `module top (in x) { wire m; link l: i; inst u: m (a = x, v = l); }
		module m (in a, i.v v) { link m: i; wire i; link i2: i; wire u = m.w; }
		interface i { wire w; view v (in w); }`, `
		in wire x:1
		wire m:1
		wire l.w:1
		wire u.m.w:1
		wire u.i:1
		wire u.i2.w:1
		wire u.u:1
		cont u.p0: set u.u:1 = u.m.w:1`)
	faults(t, []fault{
		{"module m () { } interface i { } module top () { wire a = @m; }", api.ErrNone, "m"},
		{"module m () { } interface i { } module top () { wire a = @i.b; }", api.ErrNone, "i"},
		{"module m () { } interface i { } module top () { wire @i a; }", api.ErrNone, "i"},
		{"module m () { } interface i { } module top () { inst u: @i (); }", api.ErrNone, "i"},
		{"module m () { } interface i { } module top () { link u: @m; }", api.ErrNone, "m"},
	})
}

// P12.1: a name hides all that have it around it, from its declaration on and within its scope alone.
func TestHiding(t *testing.T) {
	makes(t, "const a = 1; module top () { wire [a:0] v; const b = a; const a = b + 1; wire [a:0] w; if (1) : g { wire [a:0] x; const a = a + 1; wire [a:0] y; } wire [a:0] z; }", `
		wire v:2
		wire w:3
		wire g.x:3
		wire g.y:4
		wire z:3`)
	faults(t, within([]fault{
		{"if (1) : g { wire c; const d = @c; }", api.ErrConst, ""},
		{"if (1) : g { enum [1:0] c { i } const d = @c; }", api.ErrNone, "c"},
		{"if (1) : g { struct c { i; } const d = @c; }", api.ErrNone, "c"},
		{"if (1) : g { function c() { } const d = @c; }", api.ErrType, "c"},
		{"if (1) : g { link c: I; const d = @c; }", api.ErrType, "c"},
		{"if (1) : g { if (1) : c { } const d = @c; }", api.ErrNone, "c"},
		{"if (1) : g { if (0) : f { } else : c { } const d = @c; }", api.ErrNone, "c"},
		{"if (1) : g { if (0) : f { } else if (1) : c { } const d = @c; }", api.ErrNone, "c"},
		{"if (1) : g { for (i = 0 to -1) : c { } const d = @c; }", api.ErrNone, "c"},
		{"if (1) : g { property c (rise clk) 1 -> 1; const d = @c; }", api.ErrNone, "c"},
		{"if (1) : g { inst c: M (a = x, v = l); const d = @c; }", api.ErrNone, "c"},
	}))
	// What is declared elsewhere hides nothing here: c is still 5.
	for _, s := range []string{
		"if (0) : c { const c = 1; }", "if (0) : c { } else if (0) : c { }", "if (1) : f { const c = 1; }", "for (c = 0 to 2) : f { const d = c; }", "inst m: C (c = 1);", "function f(c) { f = c; } wire a = f(1);", "initial for (c = 0 to 1) ;",
	} {
		built(t, "module C #(d = 1) (in c) { wire n = c; }"+within([]fault{{text: "if (1) : g { " + s + " wire [c:c] h; assign h[5] = 1; }"}})[0].text)
	}
	faults(t, within([]fault{
		{"if (1) : g { wire E; wire @E e; }", api.ErrNone, "E"},
		{"if (1) : g { const R = 1; wire @R e; }", api.ErrNone, "R"},
		{"if (1) : g { const F = 1; assign w = @F(1); }", api.ErrType, "F"},
		{"if (1) : g { if (1) : F { } assign w = @F(1); }", api.ErrNone, "F"},
		{"if (1) : g { function F() { F = 1; } assign w = @F(1); }", api.ErrForm, "F"},
		{"if (1) : g { wire l; assign w = @l.k; }", api.ErrNone, "k"},
		{"if (1) : g { const l = 1; assign w = @l.k; }", api.ErrNone, "k"},
		{"if (1) : g { if (1) : l { } assign w = @l.k; }", api.ErrNone, "l"},
		{"wire m; if (1) : g { const m = 1; assign @m = 1; }", api.ErrType, "m"},
		{"wire m; if (1) : g { var m; assign @m = 1; }", api.ErrType, "m"},
		{"initial for (v = 1 to 2) @v = 1;", api.ErrType, "v"},
	}))
	// A group hides the signals of another one, also those that it does not have itself.
	faults(t, []fault{{"interface i { wire a; wire b; } interface j { wire b; } module top () { link l: i; if (1) : g { assign l.a = 1; link l: j; assign l.b = 1; assign @l.a = 1; } }", api.ErrNone, "l.a"}})
}

// P12.1: a name that is declared twice in one scope.
func TestTwice(t *testing.T) {
	for s, name := range map[string]string{
		"@const c = 1;": "c", "wire @c;": "c", "wire n, @n;": "n", "wire n; wire @n;": "n", "var @c;": "c", "var n, @n;": "n",
		"@enum [1:0] c { i }": "c", "enum [1:0] n { @c }": "c", "enum [1:0] n { i, @n }": "n", "enum [1:0] n { i, @i }": "i",
		"@struct c { i; }": "c", "@function c() { }": "c", "@inst c: M (a = x, v = l);": "c", "@link c: I;": "c",
		"@for (i = 0 to 1) : c { }": "c", "@for (i = 0 to -1) : c { }": "c", "@if (1) : c { }": "c", "if (0) : c { } else @: c { }": "c",
		"if (0) : c { } else @if (1) : c { }": "c", "@property c (rise clk) 1 -> 1;": "c",
		"wire @x;": "x", "wire @y;": "y", "wire @z;": "z", "wire @pv;": "pv", "wire @v;": "v", "wire @l;": "l", "wire @E;": "",
		"inst m: M (a = x, v = l); wire @m;": "m", "property m (rise clk) 1 -> 1; wire @m;": "m", "function m() { } wire @m;": "m",
		"for (i = 0 to -1) : m { } wire @m;": "m", "if (1) : m { } wire @m;": "m", "if (0) : n { } else : m { } wire n; wire @m;": "m",
		"enum [1:0] m { i } wire @i;": "i", "struct m { i; } wire i, @m;": "m",
		"for (i = 0 to 1) : m { @const i = 1; }": "i", "for (i = 0 to 1) : m { const m = 1; wire @m; }": "m",
		"function m([1:0] a, @a) { }": "a", "@function m(a, m) { }": "m", "function m(a) { var @a; } assign w = m(1);": "a",
		"function m(a) { var b, @m; } assign w = m(1);": "m", "function m(a) { var b; var @b; } assign w = m(1);": "b",
		"function m(a) { var @a; }": "",
	} {
		f := within([]fault{{s, api.ErrTwice, name}})[0]
		if name == "" { // not in the same scope, or never looked at
			f.code, f.text = api.OK, removeMark(f.text)
			built(t, f.text)
			continue
		}
		f.check(t)
	}
	faults(t, []fault{
		{"const a = 1; @const a = 1; module top () { }", api.ErrTwice, "a"},
		{"const a = 1; @module a () { } module top () { }", api.ErrTwice, "a"},
		{"module top () { } @module top () { }", api.ErrTwice, "top"},
		{"interface top { } @module top () { }", api.ErrTwice, "top"},
		{"module top () { } @interface top { }", api.ErrTwice, "top"},
		{"interface i { } enum [0:0] e { @i } module top () { }", api.ErrTwice, "i"},
		{"interface i { } @function i() { } module top () { }", api.ErrTwice, "i"},
		{"interface i { } @struct i { a; } module top () { }", api.ErrTwice, "i"},
		{"module top #(a = 1, @a = 2) () { }", api.ErrTwice, "a"},
		{"module top #(a = 1) (@in a) { }", api.ErrTwice, "a"},
		{"module top (in a, @out a) { }", api.ErrTwice, "a"},
		{"module top (in a, @out var a) { }", api.ErrTwice, "a"},
		{"interface i { wire b; view v (in b); } module top (in a, @i.v a) { }", api.ErrTwice, "a"},
		{"module m (in a, @in a) { } module top (in x) { inst u: m (a = x); }", api.ErrTwice, "a"},
		{"module m (in a, @in a) { } module top (in x) { inst u: m (a = !x); }", api.ErrTwice, "a"},
		{"module m #(p = 1) (@out p) { } module top () { inst u: m (); }", api.ErrTwice, "p"},
		{"module m #(p = 1, @p = 2) () { } module top () { inst u: m #(p = 3) (); }", api.ErrTwice, "p"},
		{"interface i { wire b; view v (in b); } module m (i.v a, @i.v a) { } module top () { link l: i; inst u: m (a = l); }", api.ErrTwice, "a"},
		{"interface i { wire a; wire b, @a; } module top () { link l: i; }", api.ErrTwice, "a"},
		{"interface i #(n = 1) { wire @n; } module top () { link l: i; }", api.ErrTwice, "n"},
		{"interface i #(n = 1, @n = 2) { } module top () { link l: i; }", api.ErrTwice, "n"},
	})
}

// P12.1: in different scopes, names do not matter for each other.
func TestScopes(t *testing.T) {
	makes(t, `const c = 1; interface i { wire c; }
		module m #(p = 0) (in x, out y) { const c = p + 2; wire [c:0] w; if (p == 1) : c2 { wire w; } else : c3 { wire [c+1:0] w; } }
		module top (in x) { inst a: m (x = x); inst b: m #(p = 1) (x = x); link l: i; for (c = 0 to 1) : g { wire [c:0] w; const d = c; wire [d+1:0] e; } wire [c:0] w; }`, `
		in wire x:1
		wire a.y:1
		wire a.w:3
		wire a.c3.w:4
		wire b.y:1
		wire b.w:4
		wire b.c2.w:1
		wire l.c:1
		wire g.0.w:1
		wire g.0.e:2
		wire g.1.w:2
		wire g.1.e:3
		wire w:2`)
}

// P12.1: paths are the prefixes of all that is around a signal, and its name.
func TestPaths(t *testing.T) {
	makes(t, `interface i { wire w; view v (in w); }
		module m (i.v p) { wire a; for (k = 7 to 8) : f { wire b; if (k == 8) : g { wire c; link l: i; } else : h { inst n: e (); } } }
		module e () { wire \if ; var \x-y ; property q (rise \if ) 1 -> 1; function g() { g = 1; } assign \if = g(); }
		module top (i.v p) { if (0) : no { wire no; } else if (1) : yes { inst u: m (p = p); } }`, `
		in wire p.w:1
		wire yes.u.a:1
		wire yes.u.f.7.b:1
		wire yes.u.f.7.h.n.if:1
		var yes.u.f.7.h.n.x-y:1
		wire yes.u.f.8.b:1
		wire yes.u.f.8.g.c:1
		wire yes.u.f.8.g.l.w:1
		func yes.u.f.7.h.n.f0/0 (var g:1) block {set %g:1 = 1s'1}
		cont yes.u.f.7.h.n.p0: set yes.u.f.7.h.n.if:1 = call1@0()
		prop yes.u.f.7.h.n.q yes.u.f.7.h.n.if: holds 32s'1 -> holds 32s'1`)
}
