package elab_test

import (
	"fmt"
	"math"
	"reflect"
	"slices"
	"strings"
	"testing"

	"maskwright/api"
	"maskwright/elab"
	"maskwright/prep"
	S "maskwright/syntax"
)

// stmtLines writes the lines of a statement and of those in it.
func stmtLines(s api.Stmt) string {
	text := fmt.Sprint(s.Line)
	for _, kid := range s.Kids {
		text += " (" + stmtLines(kid) + ")"
	}
	for _, item := range s.Items {
		text += " [" + stmtLines(item.Do) + "]"
	}
	return text
}

// lines writes the lines of functions, processes and properties.
func lines(d api.Design) string {
	var all []string
	for _, f := range d.Funcs {
		all = append(all, "f "+stmtLines(f.Body))
	}
	for _, p := range d.Procs {
		all = append(all, fmt.Sprint("p ", p.Line, ": ", stmtLines(p.Body)))
	}
	for _, p := range d.Props {
		all = append(all, fmt.Sprint("q ", p.Line))
	}
	return strings.Join(all, "\n")
}

// linedText is a source of which all kinds of parts with lines stand in lines of their own.
const linedText = `module m (
 in a, out b) {
 assign
 b = a; }
module top (in c, in [1:0] d) {
 function f(
 x) {
 var y,
 z = x;
 f =
 y; ; }
 wire e,
 g = c,
 h
 = f(1);
 inst u:
 m (a =
 d[0],
 b = e);
 comb
 { ;
 if (c)
 ; else
 { ; }
 for (i = 1 to 2)
 ;
 case (c) { 1:
 ;
 default: {
 } } }
 property p (rise c)
 1 ->
 1;
 always
 while (1)
 delay
 1;
}`

// linedLines are its lines.
const linedLines = `f 6 (9) (10) (11)
p 13: 13
p 14: 14
p 16: 16
p 16: 16
p 3: 3
p 20: 21 (21) (22 (23) (24 (24))) (25 (26) (26)) (27 [28] [29])
p 34: 35 (36)
q 31`

// P12.13: statements, processes and properties have the lines from which they come.
func TestLines(t *testing.T) {
	if got := lines(built(t, linedText)); got != linedLines {
		t.Errorf("%s\nnot\n%s", got, linedLines)
	}
	if got := lines(built(t, "module top () { comb ; }")); got != "p 1: 1" {
		t.Error(got)
	}
	// They are lines of files, whichever.
	d, l, e := elab.Text(map[string]string{"a": "\n`define S ;\n\n`include \"b\"\n module top () { comb\n`S\n inst u: m (); }", "b": "module m () {\n comb\n\n;\n}"}, "a", "top", nil)
	if got := lines(d); e != api.OK || got != "p 5: 6\np 2: 4" {
		t.Errorf("%s; %v, error %d", got, l, e)
	}
}

// P12.13: a line is 0 if there is no origin, or that of the origin is negative.
func TestOddLines(t *testing.T) {
	f := tree(t, "module top () {\n comb\n ;\n comb { }\n}")
	for _, x := range []struct {
		lines []prep.Origin
		want  string
	}{
		{nil, "p 0: 0\np 0: 0"},
		{[]prep.Origin{{Line: 1}, {Line: 1 << 40}}, "p 1099511627776: 0\np 0: 0"},
		{[]prep.Origin{{Line: 4}, {Line: -1}, {Line: 5, File: ":"}, {Line: 0}}, "p 0: 5\np 0: 0"},
		{[]prep.Origin{{}, {Line: math.MinInt64}, {Line: 7}, {Line: math.MaxInt64}}, "p 0: 7\np 9223372036854775807: 9223372036854775807"},
	} {
		f.Lines = x.lines
		d, l, e := elab.Design(f, "top", nil)
		if got := lines(d); e != api.OK || len(l) > 0 || got != x.want {
			t.Errorf("%v: %s; %v, error %d", x.lines, got, l, e)
		}
	}
	for _, line := range []int{0, 5, 6, math.MaxInt64} {
		f := tree(t, "module top () {\n comb\n ;\n}")
		f.Items[0].Kids[2].Kids[0].Line = line
		if d, _, e := elab.Design(f, "top", nil); e != api.OK || lines(d) != "p 0: 3" {
			t.Errorf("%d: %s, error %d", line, lines(d), e)
		}
	}
}

// refused checks that there is an error, with some messages and no design.
func refused(t *testing.T, what string, f S.File, top string, params map[string]int64, want api.Errno, notes ...api.Note) {
	t.Helper()
	d, l, e := elab.Design(f, top, params)
	if e != want || !empty(d) || !slices.Equal(l, notes) {
		t.Errorf("%s: %v, error %d, not %v, %d", what, l, e, notes, want)
	}
}

// P12.14: errors, in their order.
func TestDesignErrors(t *testing.T) {
	one := map[string]int64{"p": 1}
	good := tree(t, "module top #(p = 2) () { }")
	bad := tree(t, "module top #(p = 2) () { wire a, a; }")
	worse := tree(t, "const a = b; module top #(p = 2) () { wire a, a; }")
	invalid := tree(t, "const a = b; module top #(p = 2) () { wire a, a; }")
	invalid.Items[0].Name = ""
	atA := api.Note{File: "a.mw", Line: 1, Col: 34, Code: api.ErrTwice, Text: "a"}
	atB := api.Note{File: "a.mw", Line: 1, Col: 11, Code: api.ErrNone, Text: "b"}
	refused(t, "not valid", invalid, "no", map[string]int64{"x": 1}, api.ErrForm)
	refused(t, "fault of an item", worse, "no", map[string]int64{"x": 1}, api.ErrNone, atB)
	refused(t, "no module", good, "no", one, api.ErrNone)
	refused(t, "no module", bad, "", nil, api.ErrNone)
	refused(t, "no module", S.File{}, "top", nil, api.ErrNone)
	refused(t, "no parameter", good, "top", map[string]int64{"p": 1, "x": 1}, api.ErrNone)
	refused(t, "no parameter", bad, "top", map[string]int64{"": 1}, api.ErrNone)
	refused(t, "fault of the module", bad, "top", one, api.ErrTwice, atA)
	refused(t, "an interface", tree(t, "interface top #(p = 2) { }"), "top", one, api.ErrNone)
	refused(t, "a constant", tree(t, "const top = 1;"), "top", nil, api.ErrNone)
	if d, l, e := elab.Design(good, "top", one); e != api.OK || len(l) > 0 || !reflect.DeepEqual(d, api.Design{Name: "top"}) {
		t.Error(d, l, e)
	}
}

// P12.14: faults of a design that is not valid have no place.
func TestInvalidDesigns(t *testing.T) {
	nested := func(n int) string { return strings.Repeat("{", n) + strings.Repeat("}", n) }
	built(t, module("comb "+nested(api.MaxDeep)))
	large(t, module("comb "+nested(api.MaxDeep+1)))
	edges := func(n int) string { return "module top (in c) { seq (" + list(n, "c") + ") ; }" }
	built(t, edges(8))
	large(t, edges(9))
	built(t, "module top (in [63:0] a, in [31:0] b) { }")
	large(t, "module top (in [63:0] a, in [31:0] b, in c) { }")
	built(t, "module top (out [63:0] a, out [31:0] b) { }")
	large(t, "module top (out [63:0] a, out [31:0] b, out c) { }")
	// 1 + 64 * (1 + 1 + 60) nodes, and those of the other process; they are few steps.
	nodes := func(n int) string {
		return module("initial for (i = 1 to 64) check(cat("+list(60, "1'd1")+"));", "comb {"+strings.Repeat(";", n-1-64*62-1)+"}")
	}
	built(t, nodes(api.MaxTree))
	large(t, nodes(api.MaxTree+1))
	weigh := "function f() { repeat (1) { " + strings.Repeat("f = 1; ", 300) + "} } "
	built(t, module(weigh, "wire w = "+strings.Repeat("f() + ", 20)+"1;"))
	large(t, module(weigh, "wire w = "+strings.Repeat("f() + ", 30)+"1;"))
	fault{module("function [63:0] n() { n = now; }", "wire w = n();"), api.ErrType, ""}.check(t)
}

// P12.14: the parameters of the module have the given numbers, with 64 bits and a sign.
func TestParams(t *testing.T) {
	f := tree(t, "module top #(a = 3, b = a + 1'd1, c = nobody) () { var [7:0] u = width(a), v = a, w = width(b), x = b, y = c; var signed [63:0] z = a; initial z = a; initial z = -c >>> 1; }")
	for v, want := range map[int64]string{
		5:             "var u:8 =8'b01000000|var v:8 =8'b00000101|var w:8 =8'b01000000|var x:8 =8'b00000110|var y:8 =8'b11111111|var z:64s =64'b" + fmt.Sprintf("%064b", 5) + "|initial p0: set z:64s = 64s'5|initial p1: set z:64s = sar64s(neg64s(64s'18446744073709551615), 32s'1)",
		-2:            "var u:8 =8'b01000000|var v:8 =8'b11111110|var w:8 =8'b01000000|var x:8 =8'b11111111|var y:8 =8'b11111111|var z:64s =64'b" + strings.Repeat("1", 63) + "0|initial p0: set z:64s = 64s'18446744073709551614|initial p1: set z:64s = sar64s(neg64s(64s'18446744073709551615), 32s'1)",
		math.MinInt64: "var u:8 =8'b01000000|var v:8 =8'b00000000|var w:8 =8'b01000000|var x:8 =8'b00000001|var y:8 =8'b11111111|var z:64s =64'b1" + strings.Repeat("0", 63) + "|initial p0: set z:64s = 64s'9223372036854775808|initial p1: set z:64s = sar64s(neg64s(64s'18446744073709551615), 32s'1)",
	} {
		d, l, e := elab.Design(f, "top", map[string]int64{"a": v, "c": -1})
		if got := strings.Join(write(d), "|"); e != api.OK || len(l) > 0 || got != want {
			t.Errorf("%d: %v, error %d\n%s\nnot\n%s", v, l, e, got, want)
		}
	}
	refused(t, "a value that is not given", f, "top", map[string]int64{"a": 1, "b": 2}, api.ErrNone, api.Note{File: "a.mw", Line: 1, Col: 39, Code: api.ErrNone, Text: "nobody"})
	// Those of other modules are their own.
	d, _, e := elab.Text(map[string]string{"a": "module m #(p = 1) () { wire [p:0] w; } module top #(p = 2) () { inst u: m (); inst v: m #(p = p) (); }"}, "a", "top", map[string]int64{"p": 4})
	if got := strings.Join(write(d), "|"); e != api.OK || got != "wire u.w:2|wire v.w:5" {
		t.Error(got, e)
	}
	for _, top := range []string{"m", "n"} {
		d, _, e := elab.Text(map[string]string{"a": "module m (in a) { } module n (out b) { inst m: m (a = b); }"}, "a", top, nil)
		if e != api.OK || d.Name != top || len(d.Signals) != 1 {
			t.Error(d, e)
		}
	}
}

// P12.14: a message is at the place in a file from which the line comes; there is none without such a place, or if it could not be a message.
func TestMessages(t *testing.T) {
	f := tree(t, "module top () {\n wire a,\n  a;\n}")
	note := api.Note{File: "f", Line: 9, Col: 3, Code: api.ErrTwice, Text: "a"}
	first := api.Note{File: "f", Line: 9, Col: 1, Code: api.ErrTwice, Text: "a"}
	for _, x := range []struct {
		lines []prep.Origin
		want  []api.Note
	}{
		{nil, nil},
		{make([]prep.Origin, 1), nil},
		{[]prep.Origin{{}, {File: "f", Line: 9, Whole: true}}, []api.Note{first}},
		{[]prep.Origin{{}, {}, {File: "f", Line: 9, Whole: true}}, []api.Note{note}},
		{[]prep.Origin{{}, {}, {File: "f", Line: 9}}, []api.Note{first}},
		{[]prep.Origin{{}, {}, {File: "", Line: 9}}, nil},
		{[]prep.Origin{{}, {}, {File: "a:b", Line: 9}}, nil},
		{[]prep.Origin{{}, {}, {File: "f", Line: 0}}, nil},
		{[]prep.Origin{{}, {}, {File: "f", Line: api.MaxText + 1}}, nil},
	} {
		f.Lines = x.lines
		refused(t, fmt.Sprint(x.lines), f, "top", nil, api.ErrTwice, x.want...)
	}
	g := tree(t, "module top () {\n wire a,\n  a;\n}")
	g.Items[0].Kids[2].Kids[0].Kids[2].Col = api.MaxText + 2
	refused(t, "a column that is too great", g, "top", nil, api.ErrTwice)
	g.Items[0].Kids[2].Kids[0].Kids[2].Line = 0
	refused(t, "no line", g, "top", nil, api.ErrTwice)
}

// P12.15: Text reads the files, and then their tree.
func TestText(t *testing.T) {
	files := map[string]string{
		"a": "`include \"b\"\n`define W [1:0]\nmodule top (in `W x) {\n inst u: m #(n = 2) (a = x);\n}",
		"b": "`ifdef W\nno\n`endif\nmodule m #(n = 1) (in [n-1:0] a) { }",
		"c": "`include \"b\"\n\nmodule top () { inst u: m (a = 1, a = 2); }\n",
		"d": "`include \"e\"\nmodule top () {",
		"e": "`define\n`nothing",
		"f": "module top () {\n wire 1; }",
		"g": "module top () {\n wire a # }",
		"h": "`define a wire b\nmodule top () { `a; const c = 1; `a; }",
		"i": "module top () { " + strings.Repeat("comb ;", 2000) + "}",
		"j": strings.Repeat(" ", api.MaxText) + "module top () { }",
	}
	d, l, e := elab.Text(files, "a", "top", nil)
	if got := strings.Join(write(d), "|"); e != api.OK || len(l) > 0 || got != "in wire x:2" {
		t.Error(got, l, e)
	}
	for file, want := range map[string][]api.Note{
		"c": {{File: "c", Line: 3, Col: 35, Code: api.ErrTwice, Text: "a"}},
		"d": {{File: "e", Line: 1, Col: 1, Code: api.ErrName}, {File: "e", Line: 2, Col: 1, Code: api.ErrNone, Text: "nothing"}},
		"f": {{File: "f", Line: 2, Col: 7, Code: api.ErrSyntax}},
		"g": {{File: "g", Line: 2, Col: 9, Code: api.ErrSyntax, Text: "#"}},
		"h": {{File: "h", Line: 2, Col: 1, Code: api.ErrTwice, Text: "b"}},
		"i": {{Code: api.ErrLarge}},
		"j": {{Code: api.ErrLarge}},
		"":  {{Code: api.ErrNone}},
		"z": {{Code: api.ErrNone}},
		"a": {{Code: api.ErrNone}},
	} {
		top := "top"
		if file == "a" {
			top = "Top"
		}
		code := want[0].Code
		if want[0].File == "" {
			want = nil
		}
		if d, l, e := elab.Text(files, file, top, nil); e != code || !slices.Equal(l, want) || !empty(d) {
			t.Errorf("%s: %v, error %d, not %v, %d", file, l, e, want, code)
		}
	}
	if d, l, e := elab.Text(nil, "a", "top", nil); e != api.ErrNone || len(l) > 0 || !empty(d) {
		t.Error(d, l, e)
	}
	if d, l, e := elab.Text(files, "a", "m", map[string]int64{"n": 64}); e != api.OK || len(l) > 0 || d.Signals[0].W != 64 {
		t.Error(d, l, e)
	}
}
