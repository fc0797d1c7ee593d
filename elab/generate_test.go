package elab_test

import (
	"testing"

	"maskwright/api"
)

// P12.12: a GenFor has its members once for each number.
func TestGenFor(t *testing.T) {
	makes(t, `module top () {
		for (i = 1 to 3) : a { wire [i:0] w; var [7:0] v = i; }
		for (i = 5 to 5) : b { for (j = i to i + 1) : c { wire [j-i:0] w; } }
		for (i = 3 to 2) : d { wire w = nobody; }
		for (i = 0 to -1) : e { wire w = nobody; }
		for (i = 1023 to 1023) : f { var [7:0] v = width(i); initial v = i; }
		for (i = 1000 to 3) : g { }
	}`, `
		wire a.1.w:2
		var a.1.v:8 =8'b00000001
		wire a.2.w:3
		var a.2.v:8 =8'b00000010
		wire a.3.w:4
		var a.3.v:8 =8'b00000011
		wire b.5.c.5.w:1
		wire b.5.c.6.w:2
		var f.1023.v:8 =8'b00100000
		initial f.1023.p0: set f.1023.v:8 = 8s'255`)
	// The number has a sign.
	makes(t, `module top (in signed [3:0] x) { for (i = 1 to 1) : g { wire w = x < i; } }`, `
		in wire x:4s
		wire g.1.w:1
		cont g.1.p0: set g.1.w:1 = lt1s(resize32s(x:4s), 32s'1)`)
	built(t, module("for (i = 0 to 63) : b { wire w; }", "for (i = 960 to 1023) : c { wire w; }"))
	faults(t, within([]fault{
		{"for (i = @-1 to 0) : g { }", api.ErrRange, ""}, {"for (i = @1024 to 0) : g { }", api.ErrRange, ""}, {"for (i = 0 to @-2) : g { }", api.ErrRange, ""}, {"for (i = 1000 to @1024) : g { }", api.ErrRange, ""}, {"for (i = @x to nobody) : g { }", api.ErrConst, ""}, {"for (i = @u to nobody) : g { }", api.ErrConst, ""}, {"for (i = 0 to @x) : g { }", api.ErrConst, ""}, {"for (i = 0 to @u) : g { }", api.ErrConst, ""}, {"for (i = @nobody to x) : g { }", api.ErrNone, "nobody"},
		{"@for (i = 0 to 64) : g { }", api.ErrLarge, "g"}, {"@for (i = 0 to 1023) : g { }", api.ErrLarge, "g"}, {"@for (i = 900 to 964) : g { wire w = nobody; }", api.ErrLarge, "g"}, {"@for (i = 0 to 64) : c { }", api.ErrLarge, "c"}, {"@for (i = 0 to 6) : c { wire w = nobody; }", api.ErrTwice, "c"},
		{"for (i = 0 to 6) : g { wire w = @nobody; }", api.ErrNone, "nobody"}, {"for (i = 0 to 6) : g { wire @i; }", api.ErrTwice, "i"}, {"for (i = 3 to 6) : g { wire @[4:i] n; }", api.ErrRange, ""}, {"for (i = 3 to 6) : g { } wire n = @i;", api.ErrNone, "i"}, {"for (i = 3 to 6) : g { wire n; } assign @n = 1;", api.ErrNone, "n"},
	}))
}

// P12.12: a GenIf has the members of the first branch whose condition is true.
func TestGenIf(t *testing.T) {
	makes(t, `module top (in [3:0] x) {
		if (width(x) == 4) : a { wire w; } else : b { wire w = nobody; }
		if (0) : c { wire w = nobody; } else : d { wire w; }
		if (2'd0) : c { } else if (-8) : e { wire w; } else : f { wire w = nobody; }
		if (0) : c { } else if (0) : f { wire w = nobody; } else : g { wire w; }
		if (0) : c { } else if (0) : f { } else if (3) : h { wire w; } else if (nobody) : f { }
		if (0) : c { wire w = nobody; }
		if (0) : c { } else if (0) : f { wire w = nobody; }
		if (1) : i { if (1) : i { wire w; } }
		wire c, f;
	}`, `
		in wire x:4
		wire a.w:1
		wire d.w:1
		wire e.w:1
		wire g.w:1
		wire h.w:1
		wire i.i.w:1
		wire c:1
		wire f:1`)
	faults(t, within([]fault{
		{"if (@x) : g { }", api.ErrConst, ""}, {"if (@u) : g { }", api.ErrConst, ""}, {"if (@1'bz) : g { }", api.ErrConst, ""}, {"if (@2'b1x) : g { }", api.ErrConst, ""}, {"if (@now) : g { }", api.ErrConst, ""}, {"if (@nobody) : g { }", api.ErrNone, "nobody"}, {"if (@x) : c { }", api.ErrConst, ""},
		{"if (0) : g { } else if (@x) : h { }", api.ErrConst, ""}, {"if (0) : g { } else if (@u) : h { } else : i { }", api.ErrConst, ""}, {"if (0) : g { } else if (0) : h { } else if (@nobody) : i { }", api.ErrNone, "nobody"}, {"if (0) : g { } else if (@u) : c { }", api.ErrConst, ""},
		{"@if (1) : c { wire w = nobody; }", api.ErrTwice, "c"}, {"if (0) : g { } else @: c { wire w = nobody; }", api.ErrTwice, "c"}, {"if (0) : g { } else @if (1) : c { wire w = nobody; }", api.ErrTwice, "c"}, {"if (0) : g { } else if (0) : h { } else @: c { wire w = nobody; }", api.ErrTwice, "c"},
		{"if (1) : g { wire w = @nobody; }", api.ErrNone, "nobody"}, {"if (0) : g { } else : h { wire n, @n; }", api.ErrTwice, "n"}, {"if (1) : g { wire n; } assign @n = 1;", api.ErrNone, "n"},
	}))
}
