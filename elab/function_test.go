package elab_test

import (
	"testing"

	"maskwright/api"
)

// P12.7: a function has its arguments, its result and its other variables, and first gives these their initial values.
func TestFunction(t *testing.T) {
	makes(t, `struct s { [3:0] a; b; }
		module top (in s x, out signed [7:0] q) {
			function signed [4:1] f(s a, signed [2:1] b) {
				var [3:0] v = a.a, w [1:2], n = v + 1;
				var c;
				f = b; f[4] = n[0]; w[1] = v; c = a.b;
				if (c) f = -1; else { while (c) c = 0; repeat (2) { } }
				case (v) { 1: f = 2; default: ; }
				for (i = 1 to 2) w[i] = i;
			}
			assign q = f(x, x.a[2:1]);
		}`, `
		in wire x:5
		out wire q:8s
		func f0/2 (var a:5, var b:2s, var f:4s, var v:4, var w:4 x2, var n:4, var c:1) block {set %v:4 = slice4@1(%a:5)} {set %n:4 = add4(%v:4, 4'1)} {set %f:4s = resize4s(%b:2s)} {set slice1@3(%f:4s) = slice1@0(%n:4)} {set %w[1'0]:4 = %v:4} {set %c:1 = slice1@0(%a:5)} {if %c:1 {set %f:4s = neg4s(4s'1)} {block {while %c:1 {set %c:1 = 1s'0}} {repeat 32s'2 {block}}}} {case exact resize32(%v:4) [32s'1: set %f:4s = 4s'2] [: nop]} {block {set %w[1'0]:4 = 4s'1} {set %w[1'1]:4 = 4s'2}}
		cont p0: set q:8s = resize8s(call4s@0(x:5, slice2@2(x:5)))`)
}

// P12.7: functions are made when they are called, each one once for each time that it is declared, ahead of the expression, the first one first.
func TestFunctionsMade(t *testing.T) {
	makes(t, `function a(x) { a = x; } function b(x) { b = !x; } function c(x) { c = a(b(x)) + b(x); } function no(x) { no = nobody; }
		module m (in x, out y) { function a(x) { a = b(x); } assign y = a(c(x)); }
		module top (in x, out [1:0] y) { inst u: m (x = x, y = y[b(0)]); for (i = 1 to 2) : g { inst w: m (x = x); } }`, `
		in wire x:1
		out wire y:2
		wire u.y:1
		wire g.1.w.y:1
		wire g.2.w.y:1
		func f0/1 (var x:1, var b:1) block {set %b:1 = lnot1(%x:1)}
		func u.f1/1 (var x:1, var a:1) block {set %a:1 = call1@0(%x:1)}
		func f2/1 (var x:1, var a:1) block {set %a:1 = %x:1}
		func f3/1 (var x:1, var c:1) block {set %c:1 = add1(call1@2(call1@0(%x:1)), call1@0(%x:1))}
		func g.1.w.f4/1 (var x:1, var a:1) block {set %a:1 = call1@0(%x:1)}
		func g.2.w.f5/1 (var x:1, var a:1) block {set %a:1 = call1@0(%x:1)}
		cont p0: set slice1@1(y:2) = u.y:1
		cont u.p1: set u.y:1 = call1@1(call1@3(x:1))
		cont g.1.w.p2: set g.1.w.y:1 = call1@4(call1@3(x:1))
		cont g.2.w.p3: set g.2.w.y:1 = call1@5(call1@3(x:1))`)
}

// P12.7: where functions are made: in all kinds of expressions, also where they give no value.
func TestFunctionsAhead(t *testing.T) {
	names := func(s string) string {
		d := built(t, `function a(x) { a = x; } function b(x) { b = x; } function c(x) { c = x; } module m #(p = 1) (in i, out [1:0] o) { } module top (in clk, in x, out [1:0] y) { wire w; var [1:0] v; `+s+" }")
		all := ""
		for _, f := range d.Funcs {
			all += f.Vars[1].Name
		}
		return all
	}
	for s, want := range map[string]string{
		"const k = b(a(1)) + c(1);":                                   "bac",
		"wire [a(1):b(0)] n [b(0):c(1)];":                             "abc",
		"wire n = c(x);":                                              "c",
		"var n = a(0);":                                               "a",
		"enum [c(1):0] n { i = b(0) }":                                "cb",
		"wire [width(c(b(x))):0] n;":                                  "cb",
		"wire [log(a(1)):0] n;":                                       "a",
		"initial case (c(x)) { b(x): ; c(x), a(x): ; }":               "cba",
		"initial v[a(x)] = b(x);":                                     "ab",
		"initial v[a(x) +: b(1)] = after (c(x)) 1;":                   "abc",
		"initial cat(v[b(x)], v[a(x)]) = c(x);":                       "bac",
		"assign y[b(0)] = a(x);":                                      "ba",
		"initial if (a(x)) delay b(x); else wait (c(x));":             "abc",
		"initial { show(\"\", a(x), c(x)); check(b(x)); }":            "acb",
		"initial { while (b(x)) repeat (a(x)) ; }":                    "ba",
		"initial for (i = b(0) to c(1)) v = i;":                       "bc",
		"for (i = b(0) to a(1)) : g { }":                              "ba",
		"if (a(1)) : g { } else if (b(1)) : h { }":                    "a",
		"if (a(0)) : g { } else if (b(1)) : h { }":                    "ab",
		"inst n: m #(p = c(1)) (o = y[a(0) +: 2], i = b(x));":         "cba",
		"property n (rise clk) b(x) then (a(1)) c(x) -> 1;":           "bac",
		"property n (rise clk) 1 times (c(0):b(1)) => a(x);":          "cba",
		"function d(x) { var n = b(x); d = c(x); } wire n = 1;":       "",
		"function d(x) { var n = b(x); d = c(x); } wire n = d(a(x));": "bcda",
	} {
		if got := names(s); got != want {
			t.Errorf("%s: %s, not %s", s, got, want)
		}
	}
}

// P12.7: faults in functions come when they are made, ahead of those of the expression.
func TestFunctionFaults(t *testing.T) {
	faults(t, within([]fault{
		{"function n() { n = @nobody; } assign w = other + n();", api.ErrNone, "nobody"},
		{"function n() { n = @nobody; } function o() { o = someone; } assign w = n() + o();", api.ErrNone, "nobody"},
		{"function n() { n = nobody; } function o() { o = @someone; } assign w = o() + n();", api.ErrNone, "someone"},
		{"function n() { n = nobody; } function o(a) { o = @someone; } assign w = o(n());", api.ErrNone, "someone"},
		{"function n() { n = @nobody; } initial case (someone) { n(): ; }", api.ErrNone, "nobody"},
		{"function n() { n = @nobody; } assign w[n()] = someone;", api.ErrNone, "nobody"},
		{"function n() { n = @nobody; } initial someone[n()] = 1;", api.ErrNone, "nobody"},
		{"function n() { n = nobody; } initial { @someone = n(); }", api.ErrNone, "someone"},
		{"function n() { n = nobody; } inst m: M (v = l, b = w[n()], a = @someone);", api.ErrNone, "someone"},
		{"function n() { n = @nobody; } function o() { var p = n(); o = someone; } assign w = o();", api.ErrNone, "nobody"},
		{"function n() { n = nobody; } const k = @n;", api.ErrType, "n"},
		{"function n(a) { } const k = @n();", api.ErrForm, "n"}, {"function n(a) { } const k = @n(1, 2);", api.ErrForm, "n"}, {"const k = @nobody();", api.ErrNone, "nobody"}, {"const k = @x();", api.ErrType, "x"}, {"const k = @E();", api.ErrNone, "E"}, {"const k = @l();", api.ErrType, "l"},
		{"function n() { repeat (2000) ; n = 1; } const k = 1 + @nobody;", api.ErrNone, "nobody"}, {"function n() { repeat (2000) ; n = 1; } const k = @n();", api.ErrLarge, ""}, {"function n() { repeat (2000) ; n = 1; } wire [@n():n()] k;", api.ErrLarge, ""},
		{"function n() { repeat (2000) ; n = 1; } const k = @n() + 1;", api.ErrLarge, ""}, {"function n() { repeat (2000) ; n = 1; } wire [@n():x] k;", api.ErrLarge, ""},
	}))
	// In this order: the types, the name, the arguments, the result; then in order all within.
	faults(t, within([]fault{
		{"function @nobody c(someone a) { }", api.ErrNone, "nobody"}, {"function c(a, @someone a) { }", api.ErrNone, "someone"}, {"@function c(a, a) { }", api.ErrTwice, "c"}, {"function n(a, @a, n) { }", api.ErrTwice, "a"}, {"@function n(n) { }", api.ErrTwice, "n"},
		{"function n() { var @nobody n; } assign w = n();", api.ErrNone, "nobody"}, {"function n() { var [1:0] n [@nobody:0]; } assign w = n();", api.ErrNone, "nobody"}, {"function n() { var n @[1:0]; } assign w = n();", api.ErrRange, ""}, {"function n() { var n @[0:32] = 1; } assign w = n();", api.ErrLarge, ""},
		{"function n() { var @n [0:1] = nobody; } assign w = n();", api.ErrType, "n"}, {"function n() { var n = @nobody; } assign w = n();", api.ErrNone, "nobody"}, {"function n() { var a [0:0], @n = 1; nobody = 1; } assign w = n();", api.ErrTwice, "n"}, {"function n() { var a, b = a, d = @e, e; } assign w = n();", api.ErrNone, "e"},
		{"function n() { var a; @b = a; b = 1; } assign w = n();", api.ErrNone, "b"}, {"function n(a) { a = 1; n[@1] = 1; } assign w = n(1);", api.ErrRange, ""},
	}))
}

// P12.7: in a function there are the names of its scope at its declaration, but no signals and groups.
func TestFunctionNames(t *testing.T) {
	makes(t, `const a = 3; function f(x) { f = x; }
		module top #(p = 4) () { const b = a + 1; enum [2:0] e { i, j } struct s { [1:0] k; } wire w; link l: n;
			for (g = 5 to 5) : h { wire q; function [7:0] t(e x) { var s y; var e z = j; t = a + b + p + g + x + y.k + z + f(1); } const f = 1; const a = 9; const late = 1; var v = 0; initial v = t(i); } }
		interface n { wire w; }`, `
		wire w:1
		wire l.w:1
		wire h.5.q:1
		var h.5.v:1 =1'b0
		func f0/1 (var x:1, var f:1) block {set %f:1 = %x:1}
		func h.5.f1/1 (var x:3, var t:8, var y:2, var z:3) block {set %z:3 = 3'1} {set %t:8 = add8(add8(add8(add8(add8(add8(add8(8'3, 8'4), 8'4), 8'5), resize8(%x:3)), resize8(slice2@0(%y:2))), resize8(%z:3)), resize8(call1@0(1s'1)))}
		initial h.5.p0: set h.5.v:1 = resize1(call8@1(3'0))`)
	faults(t, within([]fault{
		{"function n() { n = @x; } assign w = n();", api.ErrNone, "x"}, {"function n() { n = @v; } assign w = n();", api.ErrNone, "v"}, {"function n() { n = @l.k; } assign w = n();", api.ErrNone, "l"}, {"function n() { n = @pv.k; } assign w = n();", api.ErrNone, "pv"}, {"function n() { n = @wa[1]; } assign w = n();", api.ErrNone, "wa"},
		{"function n() { @v = 1; } initial v = n();", api.ErrNone, "v"}, {"function n() { @w = 1; } initial v = n();", api.ErrNone, "w"}, {"function n() { @c = 1; } initial v = n();", api.ErrType, "c"}, {"function n() { @F = 1; } initial v = n();", api.ErrType, "F"}, {"function n() { @E = 1; } initial v = n();", api.ErrNone, "E"},
		{"function n() { n = @late; } const late = 1; assign w = n();", api.ErrNone, "late"}, {"function n() { var @late a; } enum [1:0] late { k } assign w = n();", api.ErrNone, "late"}, {"function n() { n = @late(); } function late() { } assign w = n();", api.ErrNone, "late"},
		{"function n() { n = @n(); } assign w = n();", api.ErrType, "n"}, {"function n(c) { n = @c(); } assign w = n(1);", api.ErrType, "c"},
		// What signals and groups hide is not there either, and what hides them is.
		{"if (1) : g { wire c; function n() { n = @c; } assign c = n(); }", api.ErrNone, "c"}, {"if (1) : g { link c: I; function n() { n = @c; } assign w = n(); }", api.ErrNone, "c"}, {"if (1) : g { wire E; function n() { var @E a; } assign w = n(); }", api.ErrNone, "E"}, {"if (1) : g { wire F; function n() { n = @F(1); } assign w = n(); }", api.ErrNone, "F"},
		{"if (1) : g { if (1) : c { } function n() { n = @c; } assign w = n(); }", api.ErrNone, "c"},
	}))
	built(t, within([]fault{{text: "if (1) : g { function n() { n = c; } wire c; if (1) : h { const w = 1; function o() { o = w + n(); } const x = 2; assign c = o(); } }"}})[0].text)
}

// P12.7: variables of a function hide what is around it.
func TestFunctionVariables(t *testing.T) {
	makes(t, `const a = 3; const b = 2; module top (out y) { function f(a) { var [b:0] c = b; var b = a; f = b + c; for (c = 1 to 1) b = c; c = 1; } assign y = f(0); }`, `
		out wire y:1
		func f0/1 (var a:1, var f:1, var c:3, var b:1) block {set %c:3 = 3s'2} {set %b:1 = %a:1} {set %f:1 = add1(%b:1, resize1(%c:3))} {block {set %b:1 = 1s'1}} {set %c:3 = 3s'1}
		cont p0: set y:1 = call1@0(1s'0)`)
}

// P12.7: types and ranges of variables are looked at among the names of the function.
func TestVariableTypes(t *testing.T) {
	makes(t, `module top () { const c = 3; function f([4:0] a) { var [width(a)-1:0] v; var signed [c:0] w [1:width(v)]; f = 1; } wire q = f(1); }`, `
		wire q:1
		func f0/1 (var a:5, var f:1, var v:5, var w:4s x5) block {set %f:1 = 1s'1}
		cont p0: set q:1 = call1@0(5s'1)`)
	faults(t, within([]fault{
		{"function n(c) { var [@c:0] a; } assign w = n(1);", api.ErrConst, ""}, {"function n(c) { var a [0:@c]; } assign w = n(1);", api.ErrConst, ""}, {"function n(E) { var @E a; } assign w = n(1);", api.ErrNone, "E"}, {"function n() { var c, a [0:@c]; } assign w = n();", api.ErrConst, ""},
	}))
}

// P12.7: statements that a function cannot have.
func TestFunctionStatements(t *testing.T) {
	for _, s := range []string{"n <= 1;", "n <= after (1) 1;", "n = after (1) 1;", "delay 1;", "on (n);", "wait (n);", "check(n);", "check(n, \"a\");", "stop;", "show(\"\");", "write(\"\");", "strobe(\"\");", "monitor(\"\");"} {
		faults(t, within([]fault{
			{"function n() { @" + s + " } assign w = n();", api.ErrType, ""},
			{"function n() { if (n) ; else { repeat (1) @" + s + " } } initial v = n();", api.ErrType, ""},
		}))
	}
	// They are wrong before their parts are.
	faults(t, within([]fault{{"function n() { @nobody <= 1; } assign w = n();", api.ErrType, ""}, {"function n() { @delay nobody; } assign w = n();", api.ErrType, ""}, {"function n() { @nobody = after (1) 1; } assign w = n();", api.ErrType, ""}, {"function n() { @check(nobody); } assign w = n();", api.ErrType, ""}}))
	// What the design does not permit is found at its end.
	fault{within([]fault{{text: "function [63:0] n() { n = now; } initial v = n();"}})[0].text, api.ErrType, ""}.check(t)
}
