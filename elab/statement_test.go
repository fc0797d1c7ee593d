package elab_test

import (
	"testing"

	"maskwright/api"
)

// does checks what the statement of an initial process is.
func does(t *testing.T, s, want string) {
	t.Helper()
	d := built(t, "module top (in [3:0] x, in signed [1:0] s, in clk) { var [3:0] v; var signed [7:0] n; var [3:0] a [1:2]; const c = 5; wire w; function f(y) { f = y; } initial "+s+" }")
	w := writer{signals: d.Signals}
	if got := w.stmt(d.Procs[0].Body); got != want {
		t.Errorf("%s: %s, not %s", s, got, want)
	}
}

// P12.13: each kind of statement.
func TestStatements(t *testing.T) {
	for s, want := range map[string]string{
		";":                          "nop",
		"{ }":                        "block",
		"{ ; { stop; } }":            "block {nop} {block {stop}}",
		"if (x) ;":                   "if x:4 {nop}",
		"if (x == 1) ; else stop;":   "if eq1(resize32(x:4), 32s'1) {nop} {stop}",
		"if (x) if (s) ; else stop;": "if x:4 {if s:2s {nop} {stop}}",
		"while (!x) v = x;":          "while lnot1(x:4) {set v:4 = x:4}",
		"repeat (x + 5'd1) v = 1;":   "repeat add5(resize5(x:4), 5'1) {set v:4 = 4s'1}",
		"delay x;":                   "delay x:4",
		"wait (x > s);":              "until lt1(resize4(s:2s), x:4)",
		"on (clk, rise x, fall w);":  "on any clk, rise x, fall w",
		"stop;":                      "stop",
		"check(x);":                  `check "" x:4`,
		`check(x & v, "a \" b");`:    `check "a \" b" and4(x:4, v:4)`,
		`show("");`:                  `show display ""`,
		`show("a%", x, v + 1);`:      `show display "a%" x:4, add32(resize32(v:4), 32s'1)`,
		`write("a", x);`:             `show write "a" x:4`,
		`strobe("b", now);`:          `show strobe "b" now64()`,
		`monitor("c", s, w);`:        `show monitor "c" s:2s, w:1`,
		"v = x + s;":                 "set v:4 = add4(x:4, resize4(s:2s))",
		"n = s;":                     "set n:8s = resize8s(s:2s)",
		"n = x;":                     "set n:8s = resize8(x:4)",
		"v = after (x + 1) x;":       "set v:4 = x:4, add32(resize32(x:4), 32s'1)",
		"v <= x;":                    "put v:4 = x:4",
		"v <= after (s) x + 1;":      "put v:4 = add4(x:4, 4'1), s:2s",
		"cat(v[0], a[x]) <= x * x;":  "put cat5(slice1@0(v:4), a[sub4(x:4, 4'1)]:4) = mul5(resize5(x:4), resize5(x:4))",
		"v[x +: 2] = now;":           "set part2(v:4, x:4) = resize2(now64())",
		"v = f(x);":                  "set v:4 = resize4(call1@0(resize1(x:4)))",
		"a[1][c - 5 +: 2] = c;":      "set slice2@0(a[1'0]:4) = 2s'1",
	} {
		does(t, s, want)
	}
	faults(t, within([]fault{
		{"initial if (@nobody) someone = 1;", api.ErrNone, "nobody"}, {"initial if (x) @nobody = 1; else someone = 1;", api.ErrNone, "nobody"}, {"initial if (x) ; else @nobody = 1;", api.ErrNone, "nobody"}, {"initial while (@nobody) someone = 1;", api.ErrNone, "nobody"}, {"initial while (x) @nobody = 1;", api.ErrNone, "nobody"}, {"initial repeat (@nobody) someone = 1;", api.ErrNone, "nobody"}, {"initial repeat (1) @nobody = 1;", api.ErrNone, "nobody"},
		{"initial { ; @nobody = 1; someone = 1; }", api.ErrNone, "nobody"}, {"initial delay @nobody;", api.ErrNone, "nobody"}, {"initial wait (@nobody);", api.ErrNone, "nobody"}, {"initial on (clk, rise @nobody, someone);", api.ErrNone, "nobody"}, {"initial check(@nobody);", api.ErrNone, "nobody"}, {"initial show(\"\", x, @nobody, someone);", api.ErrNone, "nobody"}, {"initial write(\"\", @va);", api.ErrType, "va"}, {"initial strobe(\"\", @l);", api.ErrType, "l"}, {"initial monitor(\"\", @F);", api.ErrType, "F"},
		{"initial @nobody = after (someone) someone;", api.ErrNone, "nobody"}, {"initial v = after (someone) @nobody;", api.ErrNone, "nobody"}, {"initial v = after (@nobody) 1;", api.ErrNone, "nobody"}, {"initial v <= after (someone) @nobody;", api.ErrNone, "nobody"}, {"seq (clk) v <= after (@nobody) 1;", api.ErrNone, "nobody"}, {"initial cat(v, @x) = nobody;", api.ErrType, "x"},
	}))
}

// P12.13: a Case, of which all values have the greatest width.
func TestCase(t *testing.T) {
	for s, want := range map[string]string{
		"case (x) { }":                                 "case exact x:4",
		"casez (x) { 4'b1z: ; }":                       "case wildz x:4 [4:4'b001z: nop]",
		"casex (x) { default: ; }":                     "case wildx x:4 [: nop]",
		"case (x) { s: v = 1; 6'd1, v: ; default: ; }": "case exact resize6(x:4) [resize6(s:2s): set v:4 = 4s'1] [6'1, resize6(v:4): nop] [: nop]",
		"case (s) { -1, n: ; 3'sd2: stop; }":           "case exact resize32s(s:2s) [neg32s(32s'1), resize32s(n:8s): nop] [32s'2: stop]",
		"case (s) { default: stop; 2'd1: ; }":          "case exact s:2s [: stop] [2'1: nop]",
		"case (x + v) { 5'd1: ; }":                     "case exact add5(resize5(x:4), resize5(v:4)) [5'1: nop]",
	} {
		does(t, s, want)
	}
	faults(t, within([]fault{
		{"initial case (x) { default: ; 1: ; @default: ; }", api.ErrTwice, "default"}, {"initial case (x) { default: @nobody = 1; default: ; }", api.ErrNone, "nobody"}, {"initial case (x) { default: ; @default: nobody = 1; }", api.ErrTwice, "default"}, {"initial casex (x) { default: ; @default: ; default: ; }", api.ErrTwice, "default"},
		// All values come before the items.
		{"initial case (@nobody) { someone: ; }", api.ErrNone, "nobody"}, {"initial case (x) { 1, @nobody: ; someone: ; }", api.ErrNone, "nobody"}, {"initial case (x) { default: nobody = 1; default: ; @someone: ; }", api.ErrNone, "someone"}, {"initial case (x) { 1: ; 2: @nobody = 1; 3: someone = 1; }", api.ErrNone, "nobody"}, {"initial case (@va) { 1: ; }", api.ErrType, "va"},
	}))
}

// P12.13: a ForUp and a ForDown are written out.
func TestFor(t *testing.T) {
	for s, want := range map[string]string{
		"for (i = 1 to 3) n = i;":                                 "block {set n:8s = 8s'1} {set n:8s = 8s'2} {set n:8s = 8s'3}",
		"for (i = 1 downto -1) n = i;":                            "block {set n:8s = 8s'1} {set n:8s = 8s'0} {set n:8s = 8s'255}",
		"for (i = -1 to -1) n = i + 33'sd0;":                      "block {set n:8s = add8s(8s'255, 8s'0)}",
		"for (i = 3 to 2) nobody = i;":                            "block",
		"for (i = 2 downto 3) nobody = i;":                        "block",
		"for (i = 2147483647 to 2147483647) v = i > 0;":           "block {set v:4 = resize4(lt1s(32s'0, 32s'2147483647))}",
		"for (i = c downto 5) for (j = i to 6) a[j-4] = i;":       "block {block {set a[1'0]:4 = 4s'5} {set a[1'1]:4 = 4s'5}}",
		"for (x = 1 to 2) { v = x; for (x = x to 2) v = x; }":     "block {block {set v:4 = 4s'1} {block {set v:4 = 4s'1} {set v:4 = 4s'2}}} {block {set v:4 = 4s'2} {block {set v:4 = 4s'2}}}",
		"for (i = -2147483647 - 1 downto -2147483647 - 1) n = i;": "block {set n:8s = 8s'0}",
		"{ for (f = 1 to 1) v = f; v = f(1); }":                   "block {block {set v:4 = 4s'1}} {set v:4 = resize4(call1@0(1s'1))}",
	} {
		does(t, s, want)
	}
	d := built(t, module("var v;", "initial for (i = 0 to 63) v = i;", "initial for (i = -5 downto -68) v = i;"))
	if a, b := d.Procs[0].Body, d.Procs[1].Body; len(a.Kids) != 64 || len(b.Kids) != 64 {
		t.Error(len(a.Kids), len(b.Kids))
	}
	faults(t, within([]fault{
		{"initial @for (i = 0 to 64) nobody = 1;", api.ErrLarge, "i"}, {"initial @for (i = 64 downto 0) nobody = 1;", api.ErrLarge, "i"}, {"initial @for (c = -2147483647 - 1 to 2147483647) ;", api.ErrLarge, "c"}, {"initial @for (c = 2147483647 downto -2147483647 - 1) ;", api.ErrLarge, "c"},
		{"initial for (i = @33'd2147483648 to nobody) ;", api.ErrRange, ""}, {"initial for (i = @-33'sd2147483649 to nobody) ;", api.ErrRange, ""}, {"initial for (i = 0 to @33'd2147483648) ;", api.ErrRange, ""}, {"initial for (i = 0 downto @-33'sd2147483649) ;", api.ErrRange, ""}, {"initial for (i = @x to nobody) ;", api.ErrConst, ""}, {"initial for (i = 1 to @u) ;", api.ErrConst, ""}, {"initial for (i = @v downto nobody) ;", api.ErrConst, ""}, {"initial for (i = @nobody to x) ;", api.ErrNone, "nobody"},
		{"initial for (i = 0 to 8) v[@i] = 1;", api.ErrRange, ""}, {"initial for (i = 0 to 8) @i = 1;", api.ErrType, "i"}, {"initial { for (i = 0 to 8) ; v = @i; }", api.ErrNone, "i"},
	}))
}

// P12.13: what waits stands in processes of the kinds Always and Initial alone.
func TestWaits(t *testing.T) {
	for _, s := range []string{"delay 1;", "on (clk);", "wait (x);", "v = after (1) 1;", "delay nobody;", "wait (nobody);", "on (nobody);", "nobody = after (someone) 1;"} {
		faults(t, within([]fault{
			{"comb @" + s, api.ErrType, ""}, {"seq (clk) @" + s, api.ErrType, ""}, {"comb { if (x) ; else @" + s + " }", api.ErrType, ""}, {"seq (clk) case (x) { 1: @" + s + " }", api.ErrType, ""}, {"comb for (i = 1 to 2) while (x) @" + s, api.ErrType, ""},
		}))
	}
	for _, s := range []string{"v <= after (1) 1;", "v <= 1;", "v = 1;", "stop;", "check(x);", "show(\"\");", "write(\"\");", "strobe(\"\");", "monitor(\"\");", "while (x) v = 1;", "repeat (x) v = 1;"} {
		for _, p := range []string{"comb ", "seq (clk) ", "always ", "initial "} {
			built(t, within([]fault{{text: p + s}})[0].text)
		}
	}
	built(t, within([]fault{{text: "always { delay 1; on (clk); wait (x); v = after (1) 1; } initial { delay 1; on (clk); wait (x); v = after (1) 1; }"}})[0].text)
}

// P12.12: properties, their clocks and their sequences.
func TestProperties(t *testing.T) {
	makes(t, `module m (in x, in clk) { property p (rise clk) x => !x; }
		module top (in clk, in [3:0] x) { inst u: m (x = x[0], clk = clk); if (1) : g { property q (rise clk) x + 5'd1 then (1) x times (0:*) or [x or x[1]] and 1 -> [x then (2:64) 2 then (0) 3] times (64) ; } function f(a) { f = a; } property r (rise x) f(x) times (1+1:2) times (3:*) and 1 and 2 or 3 or 4 -> now; }`, `
		in wire clk:1
		in wire x:4
		wire u.x:1
		func f0/1 (var a:1, var f:1) block {set %f:1 = %a:1}
		cont p0: set u.x:1 = slice1@0(x:4)
		prop u.p clk: holds u.x:1 => holds lnot1(u.x:1)
		prop g.q clk: either (then 1:1 (holds add5(resize5(x:4), 5'1)) (times 0:-1 (holds x:4))) (both (either (holds x:4) (holds slice1@1(x:4))) (holds 32s'1)) -> times 64:64 (then 0:0 (then 2:64 (holds x:4) (holds 32s'2)) (holds 32s'3))
		prop r x: either (both (both (times 3:-1 (times 2:2 (holds call1@0(resize1(x:4))))) (holds 32s'1)) (holds 32s'2)) (holds 32s'3) (holds 32s'4) -> holds now64()`)
	faults(t, within([]fault{
		{"property c (rise @nobody) someone -> 1;", api.ErrNone, "nobody"}, {"property c (rise @c) someone -> 1;", api.ErrType, "c"}, {"property c (rise clk) @nobody -> someone;", api.ErrNone, "nobody"}, {"property c (rise clk) 1 -> @nobody;", api.ErrNone, "nobody"}, {"@property c (rise clk) 1 => 1;", api.ErrTwice, "c"}, {"property n (rise clk) 1 -> 1; @property n (rise clk) 1 -> 1;", api.ErrTwice, "n"},
		{"property n (rise clk) @nobody then (x) someone -> 1;", api.ErrNone, "nobody"}, {"property n (rise clk) x then (@x) nobody -> 1;", api.ErrConst, ""}, {"property n (rise clk) x then (1) @nobody -> 1;", api.ErrNone, "nobody"}, {"property n (rise clk) @nobody times (x) -> 1;", api.ErrNone, "nobody"}, {"property n (rise clk) x or @nobody or someone -> 1;", api.ErrNone, "nobody"}, {"property n (rise clk) x and @nobody and someone -> 1;", api.ErrNone, "nobody"},
		{"property n (rise clk) 1 times (@-1) -> 1;", api.ErrRange, ""}, {"property n (rise clk) 1 times (@65) -> 1;", api.ErrRange, ""}, {"property n (rise clk) 1 times (@65:nobody) -> 1;", api.ErrRange, ""}, {"property n (rise clk) 1 times (3:@2) -> 1;", api.ErrRange, ""}, {"property n (rise clk) 1 times (3:@65) -> 1;", api.ErrRange, ""}, {"property n (rise clk) 1 times (@x) -> 1;", api.ErrConst, ""}, {"property n (rise clk) 1 times (@u) -> 1;", api.ErrConst, ""}, {"property n (rise clk) 1 times (1:@u) -> 1;", api.ErrConst, ""}, {"property n (rise clk) 1 times (@u:*) -> 1;", api.ErrConst, ""},
		{"property n (rise clk) 1 then (@-1) 1 -> 1;", api.ErrRange, ""}, {"property n (rise clk) 1 then (@65) 1 -> 1;", api.ErrRange, ""}, {"property n (rise clk) 1 then (3:@2) nobody -> 1;", api.ErrRange, ""}, {"property n (rise clk) 1 then (0:@nobody) 1 -> 1;", api.ErrNone, "nobody"}, {"property n (rise clk) @wa -> 1;", api.ErrType, "wa"},
	}))
}
