package prep_test

import (
	"maps"
	"slices"
	"strconv"
	"strings"
	"testing"

	"maskwright/api"
	"maskwright/lex"
	"maskwright/note"
	"maskwright/prep"
)

// given are the macros that every test has; ONE stands for 1, and SELF never ends.
func given() map[string]string {
	return map[string]string{"ONE": "1", "SELF": "`SELF", "P_2": " a  b "}
}

// run reads the file a; the others are b, c and so on.
func run(files ...string) (prep.Source, []api.Note, api.Errno) {
	m := map[string]string{}
	for i, f := range files {
		m[string(rune('a'+i))] = f
	}
	return prep.Run(m, "a", given())
}

// check tests what becomes of files without an error.
func check(t *testing.T, want string, files ...string) {
	t.Helper()
	s, l, e := run(files...)
	if e != api.OK || len(l) > 0 || s.Text != want || len(s.Lines) != strings.Count(want, "\n") {
		t.Errorf("%q: %q instead of %q, %d lines, %v %v", files, s.Text, want, len(s.Lines), l, e)
	}
}

// checkNotes tests the messages about files, which are given in the order of note.Sort.
func checkNotes(t *testing.T, want []string, files ...string) {
	t.Helper()
	s, l, e := run(files...)
	if got := texts(t, l); !slices.Equal(got, want) {
		t.Errorf("%q: %q instead of %q", files, got, want)
		return
	}
	if s.Text != "" || len(s.Lines) > 0 || e != l[0].Code {
		t.Errorf("%q: with messages, %v %v", files, s, e)
	}
}

// texts returns the texts of messages.
func texts(t *testing.T, l []api.Note) []string {
	t.Helper()
	var list []string
	for _, n := range l {
		s, e := note.Text(n)
		if e != api.OK {
			t.Errorf("%v: %v", n, e)
		}
		list = append(list, s)
	}
	return list
}

// checkLarge tests whether files are too large.
func checkLarge(t *testing.T, name string, large bool, files ...string) {
	t.Helper()
	s, l, e := run(files...)
	if large && (e != api.ErrLarge || len(l) > 0 || s.Text != "" || len(s.Lines) > 0) || !large && e != api.OK {
		t.Errorf("%s: %v %v, %d bytes", name, e, l, len(s.Text))
	}
}

// again returns a text n times.
func again(n int, s string) string { return strings.Repeat(s, n) }

// P4.1: lines and their origins.

func TestLines(t *testing.T) {
	for file, want := range map[string]string{
		"":                           "",
		"x":                          "x\n",
		"\n":                         "\n",
		"\n\n":                       "\n\n",
		"x\n\ny":                     "x\n\ny\n",
		"x\ny\n":                     "x\ny\n",
		"x\r\n\x00\xff\t\n y ":       "x\r\n\x00\xff\t\n y \n",
		"`define A 1\n`A\n`undef A":  "\n1\n\n",
		"`ifdef A\nx\n\"\n`endif\ny": "\n\n\n\ny\n",
	} {
		check(t, want, file)
	}
}

func TestOrigins(t *testing.T) {
	s, _, e := run("x\n`include \"b\"\n`ONE x\n`ifdef A\ny\n`else\n\n`endif\nz", "`define Q\n/* `Q\n*/ y\n`Q")
	want := []prep.Origin{
		{File: "a", Line: 1, Whole: true},
		{File: "a", Line: 2},
		{File: "b", Line: 1},
		{File: "b", Line: 2, Whole: true},
		{File: "b", Line: 3, Whole: true},
		{File: "b", Line: 4},
		{File: "a", Line: 3},
		{File: "a", Line: 4},
		{File: "a", Line: 5},
		{File: "a", Line: 6},
		{File: "a", Line: 7, Whole: true},
		{File: "a", Line: 8},
		{File: "a", Line: 9, Whole: true},
	}
	if e != api.OK || s.Text != "x\n\n\n/* `Q\n*/ y\n\n1 x\n\n\n\n\n\nz\n" || !slices.Equal(s.Lines, want) {
		t.Errorf("%q %v %v", s.Text, s.Lines, e)
	}
}

func TestLimits(t *testing.T) {
	got := []int{prep.MaxFiles, prep.MaxDepth, prep.MaxUses, prep.MaxArgs, prep.MaxBody}
	if !slices.Equal(got, []int{8, 16, 2000, 8, 1000}) {
		t.Error(got)
	}
}

// Terms: which bytes are letters and digits.
func TestNames(t *testing.T) {
	for c := range 256 {
		b := string([]byte{byte(c)})
		letter := strings.Contains("_ABCDEFGHIJKLMNOPQRSTUVWXYZabcdefghijklmnopqrstuvwxyz", b)
		digit := strings.Contains("0123456789", b)
		for name, want := range map[string]bool{b: letter, "x" + b: letter || digit, b + "x": letter} {
			_, _, e := prep.Run(map[string]string{"a": ""}, "a", map[string]string{name: ""})
			if e == api.OK != want || e != api.OK && e != api.ErrName {
				t.Errorf("%q: %v", name, e)
			}
		}
		if c == '`' {
			continue
		}
		use := "`ONE" + b
		if letter || digit {
			checkNotes(t, []string{"a:1:2: unknown ONE" + b}, "+"+use)
		} else {
			check(t, "+1"+strings.TrimSuffix(b, "\n")+"\n", "+"+use)
		}
	}
}

// Of two slashes within a quoted name, no comment begins.
func TestQuotedNames(t *testing.T) {
	for c := range 256 {
		b := string([]byte{byte(c)})
		want := "`ONE"
		if lex.Quoted(b) || b == `\` {
			want = "1"
		}
		if b != "\n" && b != "`" {
			check(t, `\a`+b+"//x "+want+"\n", `\a`+b+"//x `ONE")
		}
	}
}

func TestExample(t *testing.T) {
	check(t, "\nin [8-1:0] a\n", "`define W(n) [n-1:0]\nin `W(8) a")
}

// P4.2: what is kept.

func TestKept(t *testing.T) {
	for file, want := range map[string]string{
		`"` + "`ONE" + `"` + "`ONE":           `"` + "`ONE" + `"1`,
		`"a\"` + "`ONE" + `" ` + "`ONE":       `"a\"` + "`ONE" + `" 1`,
		`"a\\" ` + "`ONE":                     `"a\\" 1`,
		`"a ` + "`ONE // `ONE":                `"a ` + "`ONE // `ONE",
		`"a\`:                                 `"a\`,
		`"//" ` + "`ONE":                      `"//" 1`,
		`"/*" ` + "`ONE\n`ONE":                `"/*" 1` + "\n1",
		`\a"` + "`ONE":                        `\a"` + "`ONE",
		`\a` + "`ONE":                         `\a1`,
		`\a.` + "`ONE":                        `\a.1`,
		`\a//b ` + "`ONE":                     `\a//b 1`,
		`\a/*b ` + "`ONE":                     `\a/*b 1`,
		`\` + "`ONE":                          `\1`,
		`\\` + "`ONE":                         `\\1`,
		`\` + again(50, "n") + "`ONE":         `\` + again(50, "n") + "1",
		`\a[` + "`ONE]":                       `\a[1]`,
		"x // `ONE \" /*\n`ONE":               "x // `ONE \" /*\n1",
		"/ / `ONE":                            "/ / 1",
		"a / `ONE * /":                        "a / 1 * /",
		"/* `ONE */ `ONE /* `X */ `ONE":       "/* `ONE */ 1 /* `X */ 1",
		"/*/ `ONE */ `ONE":                    "/*/ `ONE */ 1",
		"/**/ `ONE":                           "/**/ 1",
		"/* // */ `ONE":                       "/* // */ 1",
		"/* \" */ `ONE":                       "/* \" */ 1",
		"/* \\*/ `ONE":                        "/* \\*/ 1",
		"/* a\n`define B\n`ONE */ `ONE\n`ONE": "/* a\n`define B\n`ONE */ 1\n1",
		"/* a\n*/ `ONE /*\n`ONE*/`ONE":        "/* a\n*/ 1 /*\n`ONE*/1",
		"/*\n/\n*\n*//`ONE":                   "/*\n/\n*\n*//1",
		"/*\n\n//*/`ONE//*\n`ONE":             "/*\n\n//*/1//*\n1",
		"`ifdef X\n/*\n`endif\n`ONE":          "\n\n\n1",
		"`define X /*\n`ONE":                  "\n1",
	} {
		check(t, want+"\n", file)
	}
}

func TestCommentsAreOfAFile(t *testing.T) {
	check(t, "\n/*\n1\n", "`include \"b\"\n`ONE", "/*")
	check(t, "\n1\n/*\n`ONE\n", "`include \"b\"\n/*\n`ONE", "`ONE")
}

// P4.3: directives and their contents.

func TestDirectives(t *testing.T) {
	for file, want := range map[string]string{
		" \t `define A 2\n`A":          "\n2",
		"`define\tA\t2\n`A":            "\n2",
		"`define A 2 // `X\n`A":        "\n2",
		"`define A \"//\"\n`A":         "\n\"//\"",
		"`define A \"\\\"//\" 3//\n`A": "\n\"\\\"//\" 3",
		"`define A \"// 4 \n`A":        "\n\"// 4",
		"`define A \\x//y\n`A":         "\n\\x",
		"`define A 2 /* x // y */\n`A": "\n2 /* x",
		"`define A / /\n`A":            "\n/ /",
		"`define A //\n`A":             "\n",
		"`define A// 2\n`A":            "\n",
		"`ifdef ONE// 2\nx\n`endif//":  "\nx\n",
	} {
		check(t, want+"\n", file)
	}
}

func TestNoDirectives(t *testing.T) {
	for file, want := range map[string][]string{
		"x `define A":          {"a:1:3: unknown define"},
		"/**/ `define A":       {"a:1:6: unknown define"},
		"/*\n*/ `endif":        {"a:2:4: unknown endif"},
		"`else1":               {"a:1:1: unknown else1"},
		"`else_":               {"a:1:1: unknown else_"},
		"`Else":                {"a:1:1: unknown Else"},
		"` else":               {"a:1:1: unknown"},
		"\v`else":              {"a:1:2: unknown else"},
		"\t \t`elses":          {"a:1:4: unknown elses"},
		"``else":               {"a:1:1: unknown", "a:1:2: unknown else"},
		"\t`else":              {"a:1:2: order else"},
		" \t`else'":            {"a:1:3: order else"},
		"`ifdef/**/X\n`endif":  {"a:1:1: name /**/X"},
		"`ifdef(X)\n`endif":    {"a:1:1: name (X)"},
		"\n \t `undef\tX // Y": {"a:2:4: unknown X"},
	} {
		checkNotes(t, want, file)
	}
}

// P4.4: conditions.

func TestConditions(t *testing.T) {
	for file, want := range map[string]string{
		"`ifdef ONE\nx\n`endif":                                                               "\nx\n\n",
		"`ifdef TWO\nx\n`endif":                                                               "\n\n\n",
		"`ifndef ONE\nx\n`endif":                                                              "\n\n\n",
		"`ifndef TWO\nx\n`endif":                                                              "\nx\n\n",
		"`ifdef ONE\nx\n`else\ny\n`endif":                                                     "\nx\n\n\n\n",
		"`ifdef TWO\nx\n`else\ny\n`endif":                                                     "\n\n\ny\n\n",
		"`ifdef ONE\nx\n`elsif ONE\ny\n`else\nz\n`endif":                                      "\nx\n\n\n\n\n\n",
		"`ifdef TWO\nx\n`elsif ONE\ny\n`elsif ONE\nw\n`else\nz\n`endif":                       "\n\n\ny\n\n\n\n\n\n",
		"`ifdef TWO\nx\n`elsif TWO\ny\n`elsif ONE\nw\n`else\nz\n`endif":                       "\n\n\n\n\nw\n\n\n\n",
		"`ifdef TWO\nx\n`elsif TWO\ny\n`else\nz\n`endif\nv":                                   "\n\n\n\n\nz\n\nv\n",
		"`ifdef ONE\n`ifdef TWO\nx\n`else\ny\n`endif\nz\n`endif":                              "\n\n\n\ny\n\nz\n\n",
		"`ifdef TWO\n`ifdef ONE\nx\n`else\ny\n`endif\nz\n`else\nw\n`endif":                    "\n\n\n\n\n\n\n\nw\n\n",
		"`ifdef TWO\n`ifdef TWO\nx\n`elsif ONE\ny\n`else\nz\n`endif\n`endif":                  again(9, "\n"),
		"`ifndef A\n`define A 1\n`endif\n`ifdef A\n`A\n`undef A\n`endif\n`ifdef A\nx\n`endif": "\n\n\n\n1\n\n\n\n\n\n",
		"`ifdef TWO\n`define ONE 2\n`undef X\n`include \"q\"\n`X `\n\"\n`else\n`ONE\n`endif":  "\n\n\n\n\n\n\n1\n\n",
		"`ifdef ONE\n`define B 1\n`elsif B\nx\n`endif\n`B":                                    "\n\n\n\n\n1\n",
	} {
		check(t, want, file)
	}
}

func TestConditionNotes(t *testing.T) {
	for file, want := range map[string][]string{
		"`ifdef":                                       {"a:1:1: name", "a:1:1: short"},
		"`ifdef A B\n`endif":                           {"a:1:1: name A B"},
		"`ifdef else\n`endif":                          {"a:1:1: name else"},
		"`ifndef 1\n`endif":                            {"a:1:1: name 1"},
		"`ifdef TWO\n`elsif A.\n`endif":                {"a:2:1: name A."},
		"`ifdef ONE\n`elsif\n`endif":                   {"a:2:1: name"},
		"`ifdef " + again(41, "n") + "\n`endif":        {"a:1:1: name " + again(41, "n")},
		"`endif":                                       {"a:1:1: order endif"},
		"x\n  `else x":                                 {"a:2:3: order else"},
		"`elsif 1":                                     {"a:1:1: order elsif"},
		"`endif x":                                     {"a:1:1: order endif"},
		"`ifdef ONE\n`endif\n`endif":                   {"a:3:1: order endif"},
		"`ifdef ONE\n`else\n `else\n`endif":            {"a:3:2: order else"},
		"`ifdef ONE\n`else\n`elsif ONE\n`endif":        {"a:3:1: order elsif"},
		"`ifdef ONE\n`else\n`elsif\n`else x\n`endif y": {"a:3:1: order elsif", "a:3:1: name", "a:4:1: order else", "a:4:1: syntax else", "a:5:1: syntax endif"},
		"`ifdef ONE\n`else ONE\n`endif":                {"a:2:1: syntax else"},
		"`ifdef ONE\n`endif ONE\n`endif":               {"a:2:1: syntax endif", "a:3:1: order endif"},
		"\n `ifdef ONE\n`ifndef ONE\n`ifdef X\n`endif": {"a:2:2: short", "a:3:1: short"},
		"`ifdef X\n`else":                              {"a:1:1: short"},
		// What lies in a part that is left out: conditions are checked, nothing else is.
		"`ifdef X\n`ifdef\n`else x\n`else\n`endif y\n`endif": {"a:2:1: name", "a:3:1: syntax else", "a:4:1: order else", "a:5:1: syntax endif"},
		"`ifdef X\n`ifdef ONE\n`X":                           {"a:1:1: short", "a:2:1: short"},
		// What is left out after a bad name, and what is not.
		"`ifdef 1\n`X\n`else\n`Y\n`endif":           {"a:1:1: name 1", "a:4:1: unknown Y"},
		"`ifndef 1\n`X\n`else\n`Y\n`endif":          {"a:1:1: name 1", "a:4:1: unknown Y"},
		"`ifdef X\n`elsif 1\n`X\n`else\n`Y\n`endif": {"a:2:1: name 1", "a:5:1: unknown Y"},
		// Parts after an else are carried out, so that they are not read.
		"`ifdef ONE\n`else\n`X\n`else\n`Y\n`elsif ONE\n`Z\n`endif\n`V": {"a:4:1: order else", "a:6:1: order elsif", "a:9:1: unknown V"},
		"`ifdef X\n`else\n`X\n`else\n`Y\n`elsif ONE\n`Z\n`endif\n`V":   {"a:3:1: unknown X", "a:4:1: order else", "a:6:1: order elsif", "a:9:1: unknown V"},
	} {
		checkNotes(t, want, file)
	}
}

func TestConditionsAreOfAFile(t *testing.T) {
	checkNotes(t, []string{"b:1:1: order endif"}, "`ifdef ONE\n`include \"b\"\nx\n`endif", "`endif")
	checkNotes(t, []string{"b:2:1: short"}, "`include \"b\"\nx", "x\n`ifdef ONE")
	checkNotes(t, []string{"a:3:1: order endif", "b:2:1: short"}, "`include \"b\"\nx\n`endif", "x\n`ifdef ONE")
	// What an open condition of an included file leaves out ends with the file.
	checkNotes(t, []string{"a:2:1: unknown X", "b:1:1: short"}, "`include \"b\"\n`X", "`ifdef X")
}

// P4.5: definitions.

func TestDefinitions(t *testing.T) {
	name, body := again(api.MaxName, "n"), again(prep.MaxBody, "b")
	for file, want := range map[string]string{
		"`define A\n<`A>":                             "\n<>",
		"`define A  \t x  y \t \n<`A>":                "\n<x  y>",
		"`define A(x)x\n`A(1)":                        "\n1",
		"`define A(x)\n<`A(1)>":                       "\n<>",
		"`define A (x) y\n`A":                         "\n(x) y",
		"`define A(x) \t x) \n`A(1)":                  "\n1)",
		"`define A( x\t,  y,_z9 ) y x _z9\n`A(1,2,3)": "\n2 1 3",
		"`define " + name + " 1\n`" + name:            "\n1",
		"`define A " + body + "\n`A":                  "\n" + body,
		"`define A(" + name + ") " + name + "\n`A(7)": "\n7",
		"`define A(a,b,c,d,e,f,g,h) hgfedcba h g f e d c b a\n`A(1,2,3,4,5,6,7,8)": "\nhgfedcba 8 7 6 5 4 3 2 1",
		"`define A(A, ONE) A ONE\n`A(2, 3) `ONE":                                   "\n2 3 1",
		"`define case 1\n`case":                                                    "\n1",
		"`define A \t~!\n`A":                                                       "\n~!",
		"`define A x\ty\n`A":                                                       "\nx\ty",
		"`define A 1\n`undef A\n`define A 2\n`A":                                   "\n\n\n2",
		"`undef ONE\n`define ONE(x) <x>\n`ONE(2)":                                  "\n\n<2>",
	} {
		check(t, want+"\n", file)
	}
	check(t, "\n\n2\n", "`include \"b\"\n`A", "`define A 2")
}

func TestDefinitionNotes(t *testing.T) {
	long, body := again(api.MaxName+1, "n"), again(prep.MaxBody+1, "b")
	for file, want := range map[string]string{
		"`define":                          "name",
		"`define 1A 2":                     "name",
		"`define (x)":                      "name",
		"`define `A":                       "name",
		"`define else 1":                   "name else",
		"`define undef(":                   "name undef",
		"`define include":                  "name include",
		"`define " + long + "+":            "name " + long,
		"`define " + again(200, "n"):       "name " + again(200, "n"),
		"`define " + again(201, "n"):       "name",
		"`define A(":                       "short A",
		"`define A(x, y // )":              "short A",
		"`define A(x, 1":                   "short A",
		"`define A()":                      "name",
		"`define A(x,) y":                  "name",
		"`define A(,x) y":                  "name",
		"`define A(x y,1) y":               "name x y",
		"`define A(x\ty) y":                "name",
		"`define A(x, 1, x) y":             "name 1",
		"`define A(y, x ,x, 1) y":          "name x",
		"`define A(endif) y":               "name endif",
		"`define A(" + long + ") y":        "name " + long,
		"`define A(\x80) y":                "name",
		"`define A(\"a)\") y":              "name \"a",
		"`define A((x)) y":                 "name (x",
		"`define ONE(1)":                   "name 1",
		"`define A(1)\xff":                 "name 1",
		"`define A+1":                      "syntax A",
		"`define ONE[":                     "syntax ONE",
		"`define A\xff":                    "syntax A",
		"`define A+" + body:                "syntax A",
		"`define A(a,b,c,d,e,f,g,h,i) 1":   "large A",
		"`define A(a,b,c,d,e,f,g,h,i)\xff": "large A",
		"`define A(a,b,c,d,e,f,g,h,h,i)":   "name h",
		"`define A " + body:                "large A",
		"`define A(x)" + body:              "large A",
		"`define A " + body + "\xff":       "large A",
		"`define ONE " + body:              "large ONE",
		"`define A x\x7f":                  "form A",
		"`define A \x1f":                   "form A",
		"`define A \x00x":                  "form A",
		"`define A 1\r":                    "form A",
		"`define A(x)\vx":                  "form A",
		"`define ONE \xff":                 "form ONE",
		"`define ONE 2":                    "twice ONE",
		"`define ONE":                      "twice ONE",
		"`define ONE(x)":                   "twice ONE",
		"`undef":                           "name",
		"`undef 1":                         "name 1",
		"`undef ONE x":                     "name ONE x",
		"`undef ONE\tx":                    "name",
		"`undef ifdef":                     "name ifdef",
		"`undef " + long:                   "name " + long,
		"`undef A":                         "unknown A",
		"`undef A // x":                    "unknown A",
	} {
		checkNotes(t, []string{"a:1:1: " + want}, file)
	}
	checkNotes(t, []string{"a:2:2: twice A"}, "`define A(x)\n `define A")
	checkNotes(t, []string{"a:2:1: unknown ONE", "a:3:2: unknown ONE"}, "`undef ONE\n`undef ONE\n(`ONE)")
	// A definition that is refused changes nothing.
	checkNotes(t, []string{"a:1:1: twice ONE", "a:2:5: unknown A", "a:3:1: short A", "a:4:2: unknown A"}, "`define ONE `A\n`ONE`A\n`define A(\n+`A")
}

// P4.6: inclusion.

func TestInclusion(t *testing.T) {
	check(t, "\ny\nz\nx\n", "`include \"b\"\nx", "y\nz")
	check(t, "\n\nz\n\nz\n\nz\n", " `include\"b\" // x\n\t`include\t\"c\"", "`include \"c\"\n`include \"c\"", "z")
	check(t, "\n\nx\n", "`include \"b\"\n`include \"b\"\nx", "")
	for _, name := range []string{"x//y", `x\`, "..", "!", again(note.MaxFile, "f"), "~`x"} {
		s, l, e := prep.Run(map[string]string{"a": "`include \"" + name + "\"", name: "x"}, "a", nil)
		want := []prep.Origin{{File: "a", Line: 1}, {File: name, Line: 1, Whole: true}}
		if e != api.OK || s.Text != "\nx\n" || !slices.Equal(s.Lines, want) {
			t.Errorf("%q: %v %v %v", name, s, l, e)
		}
	}
}

func TestInclusionNotes(t *testing.T) {
	for content, want := range map[string]string{
		"":                                     "syntax include",
		`"`:                                    "syntax include",
		`""`:                                   "syntax include",
		"b":                                    "syntax include",
		`"b`:                                   "syntax include",
		`b"`:                                   "syntax include",
		`"b" x`:                                "syntax include",
		`"b" "b"`:                              "syntax include",
		`<b>`:                                  "syntax include",
		`"b:"`:                                 "syntax include",
		`"b c"`:                                "syntax include",
		"\"b\xff\"":                            "syntax include",
		`"b\" // x`:                            "syntax include",
		`"q"`:                                  "unknown q",
		` "B"// "b"`:                           "unknown B",
		`"a"`:                                  "loop a",
		`"` + again(note.MaxFile, "f") + `"`:   "unknown " + again(note.MaxFile, "f"),
		`"` + again(note.MaxFile+1, "f") + `"`: "syntax include",
	} {
		if !strings.HasPrefix(content, "b") {
			checkNotes(t, []string{"a:1:1: " + want}, "`include"+content, "x")
		}
		checkNotes(t, []string{"a:1:1: " + want}, "`include "+content, "x")
	}
	checkNotes(t, []string{"c:2:1: loop a", "c:3:2: loop b", "c:4:1: loop c"}, "`include \"b\"", "`include \"c\"", "\n`include \"a\"\n `include \"b\"\n`include \"c\"")
}

// chain returns n files, each of which includes the next one.
func chain(n int) []string {
	var files []string
	for i := range n {
		next := string(rune('b' + i))
		files = append(files, "`include \""+next+"\"\n")
	}
	files[n-1] = "x"
	return files
}

func TestMostFiles(t *testing.T) {
	check(t, again(7, "\n")+"x\n", chain(prep.MaxFiles)...)
	checkNotes(t, []string{"h:1:1: loop i"}, chain(prep.MaxFiles+1)...)
	checkNotes(t, []string{"h:1:1: loop i", "h:2:1: loop b", "h:3:1: unknown q"}, append(chain(prep.MaxFiles)[:7], "`include \"i\"\n`include \"b\"\n`include \"q\"", "x")...)
	// Files that were read to their ends do not count.
	var many []string
	for i := range 20 {
		many = append(many, string(rune('b'+i)))
	}
	top := "`include \"" + strings.Join(many, "\"\n`include \"") + "\""
	check(t, again(20, "\nx\n"), append([]string{top}, slices.Repeat([]string{"x"}, 20)...)...)
}

// P4.7: macros.

func TestMacros(t *testing.T) {
	params := "`define P(a,b) a b 8'ha `ONE\n"
	ids := "`define I(a) <a>\n"
	for file, want := range map[string]string{
		"`ONE`ONE x`ONE+":              "11 x1+",
		"`ONE(2)":                      "1(2)",
		"`P_2.":                        " a  b .",
		params + "`P((1,2), x)":        "\n(1,2) x 8'ha 1",
		params + "`P( `ONE ,\t)x":      "\n1  8'ha 1x",
		params + "`P(b,a)":             "\nb a 8'ha 1",
		params + "`P([,],{,})":         "\n[,] {,} 8'ha 1",
		params + "`P((,],{,))":         "\n(,] {,) 8'ha 1",
		params + "`P(([{,)}],2)":       "\n([{,)}] 2 8'ha 1",
		params + "`P(],2)":             "\n] 2 8'ha 1",
		params + "`P(}(,),2)":          "\n}(,) 2 8'ha 1",
		params + "`P(\"),\",2)":        "\n\"),\" 2 8'ha 1",
		params + "`P(\\),2 ,2)":        "\n\\),2 2 8'ha 1",
		params + "`P(/*,*/)":           "\n/* */ 8'ha 1",
		params + "`P(1,/*)*/":          "\n1 /* 8'ha 1*/",
		params + "`P(`P(1,2),`P(3,4))": "\n1 2 8'ha 1 3 4 8'ha 1 8'ha 1",
		ids + "`I()":                   "\n<>",
		ids + "`I( \t )":               "\n<>",
		ids + "`I( x  y )z":            "\n<x  y>z",
		ids + "`I((1))":                "\n<(1)>",
		ids + "`I(`I(`I(x)))":          "\n<<<x>>>",
		ids + "`I(`P_2)":               "\n< a  b >",
		ids + "`I(\"`X\")":             "\n<\"`X\">",
		ids + "`I(\\`ONE)":             "\n<\\1>",
		ids + "/*`I(*/`I(2)":           "\n/*`I(*/<2>",
		ids + "`I(/*)`ONE*/\n`ONE":     "\n</*>1*/\n1",
		"`define A(x) x 1x 1'x 'x 'hx 9 x_x x.x \"x\" \\x \\x.x\n`A(5)": "\n5 1x 1'x '5 'hx 9 x_x 5.5 \"x\" \\x \\x.5",
		"`define A(x) 1'x'x 1 x 0_x 8'h 'x\n`A(5)":                      "\n1'x'x 1 5 0_x 8'h '5",
		"`define A(x,y) x y\n`A(y,x)":                                   "\ny x",
		"`define A(x) `x\n`A(ONE)":                                      "\n1",
		"`define A(x) `x`ONE\n`A(ONE )":                                 "\n11",
		"`define S(x) x/x/\n`S(/`ONE) `ONE":                             "\n/1//`ONE/ 1",
		"`define B(x) \"x `ONE\" `ONE\n`B(2)":                           "\n\"x `ONE\" 1",
		"`define C `ONE \"`X\n`C `ONE":                                  "\n1 \"`X 1",
		"`define F `G(1)\n`define G(x) x+`H\n`define H 3\n`F":           "\n\n\n1+3",
		"`define F /*\n`F `ONE\n`ONE":                                   "\n/* 1\n1",
		"`define V(a) a/\n`V(1)/ `ONE":                                  "\n1// 1",
	} {
		check(t, want+"\n", file)
	}
	// Only defines can have a body with a comment, in which nothing is replaced.
	s, _, e := prep.Run(map[string]string{"a": "`A `B `B"}, "a", map[string]string{"A": "`B // `B", "B": "2"})
	if s.Text != "2 // `B 2 2\n" || e != api.OK {
		t.Error(s.Text, e)
	}
}

func TestMacroNotes(t *testing.T) {
	two := "`define T(a,b) <a|b>\n"
	for file, want := range map[string][]string{
		"x `X":                  {"a:1:3: unknown X"},
		"`X(`Y)":                {"a:1:1: unknown X", "a:1:4: unknown Y"},
		"`one":                  {"a:1:1: unknown one"},
		"`1":                    {"a:1:1: unknown"},
		"``ONE":                 {"a:1:1: unknown"},
		"``X`":                  {"a:1:1: unknown", "a:1:2: unknown X", "a:1:4: unknown"},
		"`ONE_":                 {"a:1:1: unknown ONE_"},
		"\xff`":                 {"a:1:2: unknown"},
		"`" + again(200, "n"):   {"a:1:1: unknown " + again(200, "n")},
		"`" + again(201, "n"):   {"a:1:1: unknown"},
		" `" + again(41, "n"):   {"a:1:2: unknown " + again(41, "n")},
		"`SELF":                 {"a:1:1: loop SELF"},
		"1 `SELF `SELF":         {"a:1:3: loop SELF", "a:1:9: loop SELF"},
		"/**/`SELF\n/* \n*/ `X": {"a:1:5: loop SELF", "a:3:4: unknown X"},
		two + "`T":              {"a:2:1: form T"},
		two + "`T (1,2)":        {"a:2:1: form T"},
		two + "`T[1,2]":         {"a:2:1: form T"},
		two + "`T{1,2}`X":       {"a:2:1: form T", "a:2:8: unknown X"},
		two + "`T/**/(1,2)":     {"a:2:1: form T"},
		two + "`T`X":            {"a:2:1: form T", "a:2:3: unknown X"},
		two + "`T (`X)":         {"a:2:1: form T", "a:2:5: unknown X"},
		two + " `T(`X":          {"a:2:2: short T"},
		two + "`T(1,2":          {"a:2:1: short T"},
		two + "`T(1,2\n)":       {"a:2:1: short T"},
		two + "`T(1,[2)":        {"a:2:1: short T"},
		two + "`T(1,2]":         {"a:2:1: short T"},
		two + "`T(1,2}":         {"a:2:1: short T"},
		two + "`T(1//)":         {"a:2:1: short T"},
		two + "`T(\")":          {"a:2:1: short T"},
		two + "`T(\\)":          {"a:2:1: short T"},
		two + "`T(1,2\\)`X":     {"a:2:1: short T"},
		two + "`T((1,2":         {"a:2:1: short T"},
		two + "`T(":             {"a:2:1: short T"},
		two + "`T()":            {"a:2:1: form T"},
		two + "`T(`X)`Y":        {"a:2:1: form T", "a:2:7: unknown Y"},
		two + "`T(1,2,3)":       {"a:2:1: form T"},
		two + "`T((1,2))":       {"a:2:1: form T"},
		two + "`T(1,2,)":        {"a:2:1: form T"},
		two + "`T(\"1,2\")":     {"a:2:1: form T"},
		two + "`T(`T(1,2))":     {"a:2:1: form T"},
		two + "`T(`T(1),`T)":    {"a:2:1: form T"},
		two + "`T(`X, 1 `Y)":    {"a:2:1: unknown X", "a:2:1: unknown Y"},
		two + "`T(``,1)":        {"a:2:1: unknown"},
		two + "`T(`T(1`,2)`X":   {"a:2:1: short T"},
		// Without an end of the parentheses, no comment begins among them.
		two + "`T(/*\n`X":               {"a:2:1: short T", "a:3:1: unknown X"},
		two + "`T( /*,*/ \n`X":          {"a:2:1: short T", "a:3:1: unknown X"},
		two + "`T(1)/*\n`X":             {"a:2:1: form T"},
		two + "`T/*\n`X":                {"a:2:1: form T"},
		two + "`X/*\n`X":                {"a:2:1: unknown X"},
		two + "`define U `T\n`U(1,2)`X": {"a:3:1: form T", "a:3:8: unknown X"},
		two + "`define U `T(1\n`U,2)":   {"a:3:1: short T"},
		"`define Q 1 `X `Y\n `X `Q":     {"a:2:2: unknown X", "a:2:5: unknown X", "a:2:5: unknown Y"},
		"`define Q(a) `a `1\n+`Q(1)":    {"a:2:2: unknown"},
		"`define Q(a) `a\n+`Q(X)":       {"a:2:2: unknown X"},
	} {
		checkNotes(t, want, file)
	}
}

// nest returns the definitions of n macros, each of which has the next one in its body; the last one has the body end.
func nest(n int, end string) string {
	s := ""
	for i := range n {
		body := "`N" + strconv.Itoa(i+1)
		if i == n-1 {
			body = end
		}
		s += "`define N" + strconv.Itoa(i) + " " + body + "\n"
	}
	return s
}

func TestDepth(t *testing.T) {
	check(t, again(16, "\n")+"x\n", nest(prep.MaxDepth, "x")+"`N0")
	check(t, again(16, "\n")+"1 x\n", nest(prep.MaxDepth-1, "`ONE")+"\n`N0 x")
	line := strconv.Itoa(prep.MaxDepth+1) + ":2: "
	checkNotes(t, []string{"a:" + line + "loop ONE"}, nest(prep.MaxDepth, "`ONE")+" `N0")
	checkNotes(t, []string{"a:" + line + "unknown X"}, nest(prep.MaxDepth, "`X")+" `N0")
	// A use that is too deep is left out without what stands in parentheses behind it.
	deep := nest(prep.MaxDepth, "`W(`X, `ONE)") + "`define W(a) a\n"
	line = strconv.Itoa(prep.MaxDepth+2) + ":1: "
	checkNotes(t, []string{"a:" + line + "unknown X", "a:" + line + "loop ONE", "a:" + line + "loop W"}, deep+"`N0")
	// A use in an argument stands within the use that has it.
	arg := "`define A(x) x\n"
	check(t, "\n1\n", arg+again(prep.MaxDepth-1, "`A(")+"`ONE"+again(prep.MaxDepth-1, ")"))
	checkNotes(t, []string{"a:2:1: loop ONE"}, arg+again(prep.MaxDepth, "`A(")+"`ONE"+again(prep.MaxDepth, ")"))
}

// P4.8: errors of Run.

func TestErrors(t *testing.T) {
	long, body := again(api.MaxName, "n"), again(prep.MaxBody, "b")
	type table = map[string]string
	for _, c := range []struct {
		files   table
		top     string
		defines table
		want    api.Errno
	}{
		{table{"a": "x"}, "a", nil, api.OK},
		{nil, "a", nil, api.ErrNone},
		{table{"a": "x"}, "b", table{"1": ""}, api.ErrNone},
		{table{"": "x"}, "", nil, api.ErrNone},
		{table{"a:b": "x"}, "a:b", nil, api.ErrNone},
		{table{"a b": "x"}, "a b", table{"1": ""}, api.ErrNone},
		{table{again(61, "f"): "x"}, again(61, "f"), nil, api.ErrNone},
		{table{again(60, "f"): "x"}, again(60, "f"), nil, api.OK},
		{table{"a": "x"}, "a", table{"": ""}, api.ErrName},
		{table{"a": "x"}, "a", table{"1a": ""}, api.ErrName},
		{table{"a": "x"}, "a", table{"a.b": ""}, api.ErrName},
		{table{"a": "x"}, "a", table{"a ": ""}, api.ErrName},
		{table{"a": "x"}, "a", table{long: ""}, api.OK},
		{table{"a": "x"}, "a", table{long + "n": ""}, api.ErrName},
		{table{"a": "x"}, "a", table{"include": ""}, api.ErrName},
		{table{"a": "x"}, "a", table{"module": "", "_": ""}, api.OK},
		{table{"a": "x"}, "a", table{"A": " ~\t"}, api.OK},
		{table{"a": "x"}, "a", table{"A": body}, api.OK},
		{table{"a": "x"}, "a", table{"A": body + "b"}, api.ErrForm},
		{table{"a": "x"}, "a", table{"A": "\n"}, api.ErrForm},
		{table{"a": "x"}, "a", table{"A": "\x1f"}, api.ErrForm},
		{table{"a": "x"}, "a", table{"A": "\x7f"}, api.ErrForm},
		{table{"a": "x"}, "a", table{"A": "x\xc3\xa4"}, api.ErrForm},
		{table{"a": "x"}, "a", table{"1": "\n"}, api.ErrName},
		{table{"a": "x"}, "a", table{"A": "\n", "a b": ""}, api.ErrForm},
		{table{"a": "x"}, "a", table{"a": "\n", "Z 1": ""}, api.ErrName},
		{table{"a": "x"}, "a", table{"B": "", "C": "\n", "else": ""}, api.ErrForm},
		{table{"a": "`X"}, "a", table{"A": "\n"}, api.ErrForm},
	} {
		s, l, e := prep.Run(c.files, c.top, c.defines)
		if e != c.want || len(l) > 0 || e != api.OK && (s.Text != "" || len(s.Lines) > 0) {
			t.Errorf("%v: %v %v %v", c, s, l, e)
		}
	}
}

func TestFirstMessage(t *testing.T) {
	// The first message is the first one of note.Sort, not the one that was found first.
	checkNotes(t, []string{"a:1:1: short", "a:2:1: unknown X"}, "`ifndef X\n`X")
	checkNotes(t, []string{"a:2:1: unknown q", "b:1:2: order else"}, "`include \"b\"\n`include \"q\"", " `else")
	checkNotes(t, []string{"a:1:1: unknown X", "a:1:4: unknown X"}, "`X `X")
	// Each message is given once.
	checkNotes(t, []string{"a:3:1: unknown", "b:1:1: unknown X"}, "`include \"b\"\n`include \"b\"\n`", "`X")
	// The first ones are given alone.
	var want []string
	for i := range note.Max {
		want = append(want, "a:"+strconv.Itoa(i+1)+":3: unknown X")
	}
	checkNotes(t, want, again(10*note.Max, "++`X+\n"))
	files := []string{"`include \"b\"\n" + again(250, "+`ONE`X\n"), again(5000, "`\n")}
	want = nil
	for i := range note.Max {
		want = append(want, "a:"+strconv.Itoa(i+2)+":6: unknown X")
	}
	checkNotes(t, want, files...)
}

func TestColumnsBeyond(t *testing.T) {
	// No limit of columns or texts is one of Run: only the text of a message is looked at.
	far := again(4000, "`ONE ")
	for file, want := range map[string]api.Note{
		again(20_000, " ") + "`else":                 {Line: 1, Col: 20_001, Code: api.ErrOrder, Text: "else"},
		"`ifdef ONE\n`else\n" + far + "\n`endif\n`X": {Line: 5, Col: 1, Code: api.ErrNone, Text: "X"},
		"`ifdef\x80":                          {Line: 1, Col: 1, Code: api.ErrName},
		again(20_000, "\t") + "`undef \t\x80": {Line: 1, Col: 20_001, Code: api.ErrName},
	} {
		want.File = "a"
		_, l, e := run(file)
		if e != want.Code || !slices.Contains(l, want) {
			t.Errorf("%.40q: %v %v", file, l, e)
		}
	}
}

func TestMostText(t *testing.T) {
	for more := range 3 {
		n := api.MaxText - 1 + more
		large := more == 2
		checkLarge(t, "line", large, again(n-1, "x"))
		checkLarge(t, "line with its end", large, again(n-1, "x")+"\n")
		checkLarge(t, "lines", large, again(n, "\n"))
		checkLarge(t, "conditions", large, again(n/2, "`ifdef X\n`endif\n")+again(n%2, "\n"))
		checkLarge(t, "definitions", large, again(n/2, "`define A\n`undef A\n")+again(n%2, "\n"))
		checkLarge(t, "left out", large, "`ifdef X\n"+again(n-2, "`x y\n")+"`endif")
		checkLarge(t, "included", large, again(100, "`include \"b\"\n")+again(n-15_100, "\n"), again(150, "\n"))
		checkLarge(t, "inclusions", large, again(n, "`include \"b\"\n"), "")
		checkLarge(t, "after a use", large, "`ONE"+again(n-2, "+"))
		checkLarge(t, "before a use", large, again(n-2, "x")+"`ONE")
		checkLarge(t, "comment", large, "/*"+again(n-5, "x")+"*/")
		checkLarge(t, "comments", large, "/*\n"+again(n-6, "x")+"*/")
		checkLarge(t, "string", large, "\""+again(n-2, "x"))
		checkLarge(t, "uses", large, "`define A "+again(1000, "a")+"\n"+again(15, "`A")+again(n-15_002, "+"))
		checkLarge(t, "argument", large, "`define A(a) <a>\n`A("+again(n-4, "x")+")")
	}
	checkLarge(t, "an unused argument", false, "`define A(a) <>\n`A("+again(20_000, "x")+")")
	checkLarge(t, "left out", false, "`ifdef X\n"+again(20_000, "x")+"\n`endif // "+again(20_000, "x"))
	checkLarge(t, "messages before", true, "`X\n"+again(api.MaxText-1, "x"))
	checkLarge(t, "messages behind", true, again(api.MaxText, "x")+"`X`X`X\n")
	checkLarge(t, "a message in the last line", true, again(api.MaxText, "\n")+"`X")
	checkNotes(t, []string{"a:16000:1: unknown X"}, again(api.MaxText-1, "\n")+"`X")
	var tree []string
	for _, c := range "bcdefgh" {
		tree = append(tree, again(50, "`include \""+string(c)+"\"\n"))
	}
	checkLarge(t, "a tree of files", true, append(tree, "`X")...)
}

func TestMostUses(t *testing.T) {
	const most = prep.MaxUses
	e := "`define E\n`define A(x)\n`define B(x) x\n"
	for more := range 2 {
		large := more == 1
		rest := again(more, "`E")
		checkLarge(t, "one line", large, e+again(most, "`E")+rest)
		checkLarge(t, "lines", large, e+again(most, "`E\n")+rest)
		checkLarge(t, "files", large, e+again(50, "`include \"b\"\n")+rest, "`E\n"+again(13, "`E`E`E\n"))
		checkLarge(t, "within a use", large, e+"`define C `E`E`E\n"+again(most/4, "`C")+rest)
		checkLarge(t, "unused arguments", large, e+again(most, "`A(`E)")+rest)
		checkLarge(t, "arguments", large, e+again(most/2, "`B(`E)")+rest)
		checkLarge(t, "arguments used twice", large, e+"`define D(x) x x\n"+again(most/5, "`D(`E`E)")+rest)
	}
	checkLarge(t, "no end", true, "`define A `A`A`A\n`A")
	checkLarge(t, "in vain", false, e+again(most, "\"`E\"")+"\n`ifdef X\n"+again(most, "`E")+"\n`endif\n"+again(most, "`E"))
}

func TestUsesWithMessages(t *testing.T) {
	const most = prep.MaxUses
	e := "`define B(x) x\n"
	for use, want := range map[string]string{"`B": "form B", "`B(1,2)": "form B", "`B(": "short B"} {
		checkNotes(t, []string{"a:2001:1: " + want}, e+again(most-1, "`ONE\n")+use)
		checkLarge(t, use, true, e+again(most, "`ONE\n")+use)
	}
	// Uses that are left out at once do not count.
	checkNotes(t, []string{"a:1:1: unknown X"}, "`X"+again(most, "`ONE"))
	_, l, err := run(again(2*most, "`X") + again(most, "`ONE"))
	if err != api.ErrNone || len(l) != note.Max {
		t.Error(err, l)
	}
	_, l, err = run(nest(prep.MaxDepth, again(200, "`ONE")) + again(most/prep.MaxDepth, "`N0"))
	if err != api.ErrLoop || len(l) != note.Max {
		t.Error(err, l)
	}
}

func TestMostBody(t *testing.T) {
	name := again(38, "e")
	for more := range 2 {
		// With its parameter replaced, the body has 400 names and backquotes, 399 blanks and the signs: 16000 bytes and more; with its uses replaced, it is short.
		file := "`define A(a) " + again(399, "a ") + "a" + again(1+more, "+") + "\n`A(`" + name + ")"
		checkLarge(t, "body", more == 1, "`define "+name+"\n"+file)
		if more == 0 {
			checkNotes(t, []string{"a:2:1: unknown " + name}, file)
		} else {
			checkLarge(t, "body with messages", true, file)
		}
	}
	// Bodies grow step by step, but not without a limit.
	grow := ""
	for i := range 8 {
		n := strconv.Itoa(i)
		grow += "`define G" + n + "(a) " + again(20, "`G"+strconv.Itoa(i+1)+"(a,a)") + "\n"
	}
	_, l, err := run(grow + "`G0(" + again(10_000, "x") + ")")
	if err != api.ErrLarge || len(l) > 0 {
		t.Error(err, l)
	}
}

// P4.9: Where.

func TestWhere(t *testing.T) {
	s := prep.Source{Lines: []prep.Origin{{File: "a", Line: 7, Whole: true}, {File: "b", Line: 3}, {File: "c", Line: 9, Whole: true}}}
	for _, c := range []struct {
		line, col int
		file      string
		at, want  int
	}{
		{1, 1, "a", 7, 1},
		{1, 20, "a", 7, 20},
		{2, 1, "b", 3, 1},
		{2, 20, "b", 3, 1},
		{3, 4, "c", 9, 4},
		{4, 1, "c", 9, 1},
		{4, 4, "c", 9, 1},
		{5, 1, "", 0, 0},
		{0, 1, "", 0, 0},
		{-1, 1, "", 0, 0},
		{1 << 62, 1, "", 0, 0},
		{-1 << 63, 1, "", 0, 0},
	} {
		file, line, col, ok := s.Where(c.line, c.col)
		if file != c.file || line != c.at || col != c.want || ok != (c.at > 0) {
			t.Errorf("%v: %s %d %d %v", c, file, line, col, ok)
		}
	}
	one := prep.Source{Lines: []prep.Origin{{File: "a", Line: 7, Whole: true}}}
	if file, line, col, ok := one.Where(2, 5); file != "a" || line != 7 || col != 1 || !ok {
		t.Error(file, line, col, ok)
	}
	for line := -1; line < 3; line++ {
		file, at, col, ok := prep.Source{Text: "x\n"}.Where(line, 1)
		if file != "" || at != 0 || col != 0 || ok {
			t.Error(line, file, at, col, ok)
		}
	}
}

// Z2: arguments are not changed, and results are not shared.

func TestMemory(t *testing.T) {
	files := map[string]string{"a": "`define A 2\n`undef ONE\n`A\n`include \"b\"\n`undef A", "b": "x"}
	defines := given()
	s, _, e := prep.Run(files, "a", defines)
	if e != api.OK || len(files) != 2 || !maps.Equal(defines, given()) {
		t.Fatal(e, files, defines)
	}
	want := slices.Clone(s.Lines)
	clear(s.Lines[:cap(s.Lines)])
	if s, _, _ = prep.Run(files, "a", defines); !slices.Equal(s.Lines, want) {
		t.Error(s.Lines)
	}
	_, l, _ := run("`X`Y")
	clear(l[:cap(l)])
	checkNotes(t, []string{"a:1:1: unknown X", "a:1:3: unknown Y"}, "`X`Y")
}
