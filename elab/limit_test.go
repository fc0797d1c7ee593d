package elab_test

import (
	"strings"
	"testing"

	"maskwright/api"
)

// large checks that a text has too many parts, which have no place.
func large(t *testing.T, s string) {
	t.Helper()
	fault{s, api.ErrLarge, ""}.check(t)
}

// P12.2: the numbers of parts that a design can have, next to its two ports.
func TestLimits(t *testing.T) {
	for _, x := range []struct {
		most          int
		before, parts string
	}{
		{api.MaxSignals - 2, "", "wire w#;"},
		{api.MaxSignals - 2, "", "var w#;"},
		{api.MaxSignals - 2, "module m (out a) { } ", "inst u#: m ();"},
		{api.MaxSignals - 2, "module m (out var a) { } ", "inst u#: m ();"},
		{api.MaxSignals - 2, "interface i { wire w; } ", "link l#: i;"},
		{api.MaxProcs, "", "comb ;"},
		{api.MaxProcs, "", "assign d = 1;"},
		{api.MaxProcs, "", "wire w# = 1;"},
		{api.MaxProcs, "", "initial ;"},
		{api.MaxProcs, "module m (in a) { } ", "inst u#: m (a = 1);"},
		{api.MaxProcs, "module m (out a) { } ", "inst u#: m (a = d);"},
		{api.MaxProps, "", "property p# (rise c) 1 -> 1;"},
		{api.MaxFuncs, "", "function f#() { f# = 1; } const k# = f#();"},
	} {
		head := x.before + "module top (in c, out d) { "
		built(t, head+times(x.most, x.parts)+" }")
		large(t, head+times(x.most+1, x.parts)+" }")
		// Nothing behind it is looked at, and all before it was.
		large(t, head+times(x.most+1, x.parts)+" const c = nobody; }")
		faults(t, []fault{{head + times(x.most, x.parts) + " const c = @nobody;" + replaced(x.parts, "z") + " }", api.ErrNone, "nobody"}})
	}
	// All of them come behind the names of the parts.
	faults(t, []fault{
		{module(times(api.MaxSignals, "wire w#;"), "wire @w0;"), api.ErrTwice, "w0"},
		{"module top (in c) { " + times(api.MaxProps, "property p# (rise c) 1 -> 1;") + " @property p0 (rise c) 1 -> 1; }", api.ErrTwice, "p0"},
	})
	large(t, module("wire [0:0] w;", "for (i = 0 to 63) : a { wire w; }", "for (i = 0 to 63) : b { wire w; }", "for (i = 0 to 63) : c { wire w; }"))
	// Ports are limited by the design.
	built(t, "module top ("+strings.TrimSuffix(times(api.MaxPorts, "in a#,"), ",")+") { }")
	large(t, "module top ("+strings.TrimSuffix(times(api.MaxPorts+1, "in a#,"), ",")+") { }")
}

// list returns n texts with commas between them.
func list(n int, f string) string {
	return strings.TrimSuffix(times(n, f+","), ",")
}

// P12.2: the number of variables of a function, of which the result is one.
func TestVariables(t *testing.T) {
	function := func(args, vars int) string {
		return "function f(" + list(args, "a#") + ") { " + times(vars, "var v#;") + " f = 1; } "
	}
	call := func(args int) string { return "wire w = f(" + list(args, "1") + ");" }
	const most = api.MaxSignals - 1
	for _, args := range []int{0, 1, 50, most} {
		built(t, module(function(args, most-args), call(args)))
		large(t, module(function(args, most-args+1), call(args)))
	}
	// Arguments and the result are declared with the function, all others when it is made.
	built(t, module(function(1, most)))
	large(t, module(function(most+1, 0)))
	faults(t, []fault{
		{module(function(1, most-1), "wire w = @f();"), api.ErrForm, "f"},
		{module("function f(" + list(most+1, "a#") + ", @a0) { }"), api.ErrTwice, "a0"},
		{module("function f() { "+times(most, "var v#;")+" var @v0; }", call(0)), api.ErrTwice, "v0"},
	})
}

// P12.2: steps are members, turns of a GenFor, and statements, as often as they are looked at.
func TestSteps(t *testing.T) {
	const before = "module n () { } module m () { wire w; } interface i { wire a; wire b; view v (in a); } function g() { ; g = 1; } "
	const head = "module top (in c, out d) { for (i = 0 to 63) : a { for (j = 0 to 59) : b { } } "
	const rest = api.MaxTree - 1 - 64*(1+1+60)
	for parts, steps := range map[string]int{
		"const k = 1;":                                  1,
		"wire w, v = 1;":                                1,
		"function f() { ; ; }":                          1,
		"struct s { a; b; }":                            1,
		"enum [1:0] e { x, y }":                         1,
		"link l: i;":                                    1,
		"inst u: n ();":                                 1,
		"inst u: m ();":                                 2,
		"if (0) : k { wire w; }":                        1,
		"if (1) : k { wire w; }":                        2,
		"if (0) : k { } else : l { wire w; }":           2,
		"if (0) : k { } else if (1) : l { }":            1,
		"if (0) : k { } else if (0) : l { wire w; }":    1,
		"for (i = 0 to -1) : k { wire w; }":             1,
		"for (i = 0 to 2) : k { }":                      4,
		"for (i = 0 to 2) : k { const l = 1; }":         7,
		"comb ;":                                        2,
		"initial { ; { ; } }":                           5,
		"initial if (1) ; else ;":                       4,
		"initial while (1) repeat (1) ;":                4,
		"initial case (1) { 1, 2: ; default: { } }":     4,
		"initial for (i = 1 to 3) ;":                    5,
		"initial for (i = 1 to 2) for (j = 1 to 2) ;":   8,
		"initial for (i = 3 to 1) ;":                    2,
		"assign d = 1;":                                 1,
		"property p (rise c) 1 -> 1 then (1) 1;":        1,
		"function f() { var x = 1; ; f = 1; }":          1,
		"function f() { ; f = 1; } assign d = f();":     4,
		"function f() { ; f = 1; } assign d = f()+f();": 4,
		"assign d = g();":                               3,
		"assign d = g(); assign d = g();":               4,
	} {
		built(t, before+head+parts+times(rest-steps, "const c#k = 1;")+" }")
		large(t, before+head+parts+times(rest-steps+1, "const c#k = 1;")+" }")
		// A step counts before all else.
		large(t, before+head+parts+times(rest-steps, "const c#k = 1;")+" wire [0:nobody] w; }")
		large(t, before+head+parts+times(rest-steps-1, "const c#k = 1;")+" initial nobody = 1; }")
		large(t, before+head+parts+times(rest-steps-1, "const c#k = 1;")+" for (i = 0 to 3) : q { const i = 1; } }")
		fault{before + head + parts + times(rest-steps-1, "const c#k = 1;") + " wire [0:@nobody] w; }", api.ErrNone, "nobody"}.check(t)
	}
	// Items of the file count nothing.
	built(t, times(500, "const n# = 1;")+head+times(rest, "const c#k = 1;")+" }")
}

// P12.2: paths have at most api.MaxPath bytes; their place is that of what they name.
func TestLongPaths(t *testing.T) {
	long := func(n int) string { return strings.Repeat("x", n) }
	// inside returns a text with some members behind a prefix of n bytes.
	inside := func(n int, s string) string {
		return "interface i { wire w; view v (in w); } module n (in a) { } module m (out b) { } module k (i.v p) { } module top (in c, out d, i.v p) { wire e; function g() { g = 1; } if (1) : " +
			long(39) + " { if (1) : " + long(39) + " { if (1) : " + long(n-81) + " { " + s + " } } } }"
	}
	for s, f := range map[string]struct {
		bytes int
		name  string
	}{
		"wire @w;":                     {1, "w"},
		"wire [3:0] a, @ab;":           {2, "ab"},
		"var @abc = 1;":                {3, "abc"},
		"wire @abc = 1;":               {3, "abc"},
		"wire @b = c;":                 {2, "p0"},
		"@assign d = 1;":               {2, "p0"},
		"@comb ;":                      {2, "p0"},
		"@seq (c) ;":                   {2, "p0"},
		"@always delay 1;":             {2, "p0"},
		"@initial { { } }":             {2, "p0"},
		"@property q (rise c) 1 -> 1;": {1, "q"},
		"@property q (rise c) 1 => 1;": {1, "q"},
		"@function f() { f = 1; } assign d = f();":            {2, "f0"},
		"wire w; @function f() { f = 1; } initial if (f()) ;": {2, "f0"},
	} {
		text, plain := s, removeMark(s)
		built(t, inside(api.MaxPath-f.bytes, plain))
		fault{inside(api.MaxPath-f.bytes+1, text), api.ErrLarge, f.name}.check(t)
	}
	// Signals of instances and interfaces, whose places are in these.
	mark := func(s, part string) string { return strings.Replace(s, part, "@"+part, 1) }
	for s, f := range map[string]struct {
		bytes      int
		part, name string
	}{
		"inst u: n (a = !e);": {3, "in a", "a"},
		"inst u: m ();":       {3, "out b", "b"},
		"link l: i;":          {3, "w; view", "w"},
	} {
		built(t, inside(api.MaxPath-f.bytes, s))
		fault{mark(inside(api.MaxPath-f.bytes+1, s), f.part), api.ErrLarge, f.name}.check(t)
	}
	// Numbers count as well.
	built(t, inside(api.MaxPath-2, strings.Repeat("comb ; ", 10)))
	fault{inside(api.MaxPath-2, strings.Repeat("comb ; ", 10)+"@comb ;"), api.ErrLarge, "p10"}.check(t)
	// What makes nothing can be as long as it wants to be.
	for _, s := range []string{"inst u: n (a = e);", "inst u: k (p = p);", "const abcd = 1; struct abcde { a; } enum [0:0] f { g }", "for (i = 1 to 3) : abcdefgh { const k = 1; }", "function f() { f = 1; }"} {
		built(t, inside(api.MaxPath, s))
	}
	// The name comes first, and the value of a wire before its process.
	faults(t, []fault{
		{inside(api.MaxPath, "const w = 1; wire @w;"), api.ErrTwice, "w"},
		{inside(api.MaxPath, "wire w = @nobody;"), api.ErrNone, "nobody"},
		{inside(api.MaxPath, "initial @nobody = 1;"), api.ErrNone, "nobody"},
		{inside(api.MaxPath, "const q = 1; @property q (rise c) 1 -> 1;"), api.ErrTwice, "q"},
		{inside(api.MaxPath, "@function f() { f = 1; } const h = nobody + f();"), api.ErrLarge, "f0"},
		{inside(api.MaxPath, "function f() { f = @nobody; } const h = f();"), api.ErrNone, "nobody"},
	})
	// Ports of the design are never too long, but their interfaces can be.
	built(t, "interface i { wire "+long(40)+"; view v (in "+long(40)+"); } module top (i.v "+long(40)+") { }")
}
