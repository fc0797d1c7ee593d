package parse_test

import (
	"slices"
	"strings"
	"testing"

	"maskwright/api"
	"maskwright/parse"
	"maskwright/prep"
	"maskwright/syntax"
)

// statementsFile is a source with so many statements, and a comment that fills it up to so many bytes.
func statementsFile(count, size int) string {
	text := "module m () { comb { " + strings.Repeat(";", count) + "} }"
	if rest := size - len(text); rest > 0 {
		text += "//" + strings.Repeat("x", rest-2)
	}
	return text
}

// P6.2: the errors, and their order.

func TestLargeText(t *testing.T) {
	if f := read(t, statementsFile(1, api.MaxText)); len(f.Items) != 1 {
		t.Error(f)
	}
	for _, text := range []string{statementsFile(1, api.MaxText+1), strings.Repeat("@", api.MaxText+1), strings.Repeat(" ", api.MaxText+1), statementsFile(api.MaxText, 0)} {
		checkBad(t, source(text), api.ErrLarge)
	}
}

func TestTokenErrors(t *testing.T) {
	name := strings.Repeat("n", api.MaxName+1)
	for _, x := range []struct {
		text string
		want api.Note
	}{
		{"const a = \"x", at(1, 11, api.ErrShort, "")},
		{"const a\n = /* b", at(2, 4, api.ErrShort, "")},
		{"const " + name + " = 1;", at(1, 7, api.ErrLarge, "")},
		{"const a = 2147483648;", at(1, 11, api.ErrLarge, "")},
		{"const a =\n\n  @;", at(3, 3, api.ErrSyntax, "")},
		{"const a = 01;", at(1, 11, api.ErrSyntax, "")},
		{"const a = 65'd0;", at(1, 11, api.ErrRange, "")},
		{"const a = 4'q;", at(1, 11, api.ErrSyntax, "")},
		// A token that is wrong comes before all that the grammar does not permit.
		{"; ; module const 5 @", at(1, 20, api.ErrSyntax, "")},
		{"; \"x", at(1, 3, api.ErrShort, "")},
		{statementsFile(5000, 0) + "@", at(1, len(statementsFile(5000, 0))+1, api.ErrSyntax, "")},
	} {
		checkBad(t, source(x.text), x.want.Code, x.want)
	}
}

// The tree is checked when all tokens are there, and it has no place.
func TestLargeTree(t *testing.T) {
	const others = 7 // all nodes but the statements
	if n, _ := syntax.Measure(syntax.Node{Kind: syntax.Whole, Kids: read(t, statementsFile(10, 0)).Items}); n != 10+others {
		t.Error(n)
	}
	read(t, statementsFile(syntax.MaxNodes-others, 0))
	checkBad(t, source(statementsFile(syntax.MaxNodes-others+1, 0)), api.ErrLarge)
	text := statementsFile(syntax.MaxNodes, 0)
	checkBad(t, source(text+";"), api.ErrSyntax, at(1, len(text)+1, api.ErrSyntax, ";"))

	deep := func(levels int) string { return "const a = " + strings.Repeat("-", levels) + "b;" }
	const around = 3 // the file, the constant, and its name
	read(t, deep(syntax.MaxDepth-around))
	checkBad(t, source(deep(syntax.MaxDepth-around+1)), api.ErrLarge)
	checkBad(t, source(deep(syntax.MaxDepth)+"5"), api.ErrSyntax, at(1, len(deep(syntax.MaxDepth))+1, api.ErrSyntax, ""))
	// Brackets are no nodes.
	read(t, "const a = "+strings.Repeat("(", 7000)+"b"+strings.Repeat(")", 7000)+";")
	read(t, "module m () { property p (rise c) "+strings.Repeat("[", 7000)+"b"+strings.Repeat("]", 7000)+" -> a; }")
}

// The text of a message is that of the token.
func TestTextOfMessage(t *testing.T) {
	long := strings.Repeat("s", 200)
	for token, want := range map[string]string{
		"b": "b", `\a$b `: "a$b", `\module `: "module", "module": "module", "(": "(", ">>>": ">>>", "5": "", "8'sd5": "", `""`: "", `"a \"b\" \\"`: `a "b" \`, `"` + long + `"`: long, "": "",
	} {
		checkBad(t, source("const a "+token), api.ErrSyntax, at(1, 9, api.ErrSyntax, want))
	}
	checkBad(t, source("const a = 1\n /* x */ const b = 2;"), api.ErrSyntax, at(2, 10, api.ErrSyntax, "const"))
}

// run reads files through prep, of which the first one is top.mw, and tests the message about them.
func checkFiles(t *testing.T, want api.Note, top, other string) {
	t.Helper()
	s, l, e := prep.Run(map[string]string{"top.mw": top, "lib.mw": other}, "top.mw", map[string]string{"X": "1", "BAD": "1 2", "LONG": "\"a"})
	if e != api.OK {
		t.Fatal(l, e)
	}
	checkBad(t, s, want.Code, want)
}

func TestPlaceOfMessage(t *testing.T) {
	top := func(line, col int, e api.Errno, text string) api.Note {
		return api.Note{File: "top.mw", Line: line, Col: col, Code: e, Text: text}
	}
	lib := top(2, 10, api.ErrSyntax, ";")
	lib.File = "lib.mw"
	checkFiles(t, top(2, 11, api.ErrSyntax, ";"), "const a = 1;\nconst b = ;", "")
	// In a line with macros, columns are lost.
	checkFiles(t, top(2, 1, api.ErrSyntax, ""), "const a = 1;\nconst b = `BAD;", "")
	checkFiles(t, top(2, 1, api.ErrSyntax, ";"), "const a = 1;\nconst b = `X;;", "")
	checkFiles(t, top(1, 1, api.ErrShort, ""), "const b = `LONG;\n", "")
	// Lines are those of the file from which they come.
	checkFiles(t, lib, "const a = 1;\n`include \"lib.mw\"\nconst b = 1;", "const c = 1;\nconst d =;")
	checkFiles(t, top(4, 11, api.ErrSyntax, ";"), "`ifdef X\n`include \"lib.mw\"\n`endif\nconst b = ;", "const c = 1;\nconst d = 1;")
	checkFiles(t, top(3, 1, api.ErrSyntax, "const"), "const a = 1\n`include \"lib.mw\"\nconst b = 1;", "\n\n")
	// What is missing at the end is missing behind the last line, of which the place is known.
	checkFiles(t, top(2, 1, api.ErrSyntax, ""), "const a = 1;\nconst b", "")
	checkFiles(t, top(3, 1, api.ErrSyntax, ""), "const a = 1;\nconst b\n\n", "")
	lib.Line, lib.Col, lib.Text = 1, 1, ""
	checkFiles(t, lib, "const a\n`include \"lib.mw\"", "=")
}

// A message is left out if it would have no place, or none that is permitted; the error remains.
func TestNoMessage(t *testing.T) {
	for _, text := range []string{"const a = ;", "const a = @;"} {
		s := source(text)
		s.Lines = nil
		checkBad(t, s, api.ErrSyntax)
		for _, o := range []prep.Origin{{File: "", Line: 1, Whole: true}, {File: "a b", Line: 1, Whole: true}, {File: "f", Line: 0, Whole: true}, {File: "f", Line: -1}, {File: "f", Line: api.MaxText + 1}, {File: strings.Repeat("f", 61), Line: 1}} {
			s.Lines = []prep.Origin{o}
			checkBad(t, s, api.ErrSyntax)
		}
		s.Lines = []prep.Origin{{File: "g!", Line: api.MaxText, Whole: true}}
		checkBad(t, s, api.ErrSyntax, api.Note{File: "g!", Line: api.MaxText, Col: 11, Code: api.ErrSyntax, Text: strings.Trim(text[10:11], "@")})
		s.Text = "\n\n" + text
		checkBad(t, s, api.ErrSyntax)
		s.Text = "\n" + text
		checkBad(t, s, api.ErrSyntax, api.Note{File: "g!", Line: api.MaxText, Col: 1, Code: api.ErrSyntax, Text: strings.Trim(text[10:11], "@")})
	}
	// Origins are nothing that is wrong with a source.
	if f, l, e := parse.File(prep.Source{Text: "const a = 1;\n", Lines: []prep.Origin{{Line: -5}, {File: "\n"}}}); e != api.OK || len(l) > 0 || len(f.Items) != 1 || len(f.Lines) != 2 {
		t.Error(f, l, e)
	}
	if f, l, e := parse.File(prep.Source{}); e != api.OK || len(l)+len(f.Items)+len(f.Lines) > 0 {
		t.Error(f, l, e)
	}
}

// P6.3: the errors of expressions, and their order.

func TestExprErrors(t *testing.T) {
	deep := func(levels int) string { return strings.Repeat("~", levels) + "b" }
	many := func(operands int) string { return "f(" + strings.Repeat("1,", operands-1) + "1)" }
	for text, want := range map[string]api.Errno{
		"": api.ErrSyntax, " // a": api.ErrSyntax, "a b": api.ErrSyntax, "a;": api.ErrSyntax, "(a": api.ErrSyntax, "a +": api.ErrSyntax, "a = b": api.ErrSyntax, "a, b": api.ErrSyntax, "[a]": api.ErrSyntax, "a)": api.ErrSyntax, "*": api.ErrSyntax,
		"a @": api.ErrSyntax, "a /*": api.ErrShort, `"a`: api.ErrShort, "2147483648": api.ErrLarge, "2147483647": api.OK, "65'd0": api.ErrRange,
		strings.Repeat("n", 41): api.ErrLarge, strings.Repeat("n", 40): api.OK,
		// A token that is wrong comes before the grammar, and this before the check of the tree.
		") ) /*": api.ErrShort, "a b c 65'd0": api.ErrRange, deep(100) + ")": api.ErrSyntax, deep(100) + "@": api.ErrSyntax, deep(100) + " /*": api.ErrShort,
		deep(syntax.MaxDepth - 1): api.OK, deep(syntax.MaxDepth): api.ErrLarge, many(syntax.MaxNodes - 1): api.OK, many(syntax.MaxNodes): api.ErrLarge,
		strings.Repeat(" ", api.MaxText-1) + "a": api.OK, strings.Repeat(" ", api.MaxText) + "a": api.ErrLarge, strings.Repeat(")", api.MaxText): api.ErrSyntax, strings.Repeat("@", api.MaxText+1): api.ErrLarge,
		strings.Repeat("(", 7999) + "aa" + strings.Repeat(")", 7999): api.OK,
	} {
		n, e := parse.Expr(text)
		if e != want || (e != api.OK) != (show(n) == "-") {
			t.Errorf("%.60q: %v instead of %v, %.200s", text, e, want, show(n))
		}
	}
}

// Z1: rules that stand within one another as often as a text can have them.

func TestDeepTexts(t *testing.T) {
	for _, x := range []struct{ before, again, middle, after, end string }{
		{"", "(", "a", ")", ""}, {"", "f(", "a", ")", ""}, {"", "cat(", "a", ")", ""}, {"", "- ", "a", "", ""}, {"", "a[", "a", "]", ""}, {"", "a?", "a", ":a", ""}, {"", "a?a:", "a", "", ""}, {"", "a+", "a", "", ""}, {"", "a.", "a", "", ""}, {"", "a||a&&a|a^a&a==a<a<<a+a*(", "a", ")", ""},
		{"module m(){comb", "{", ";", "}", "}"}, {"module m(){comb", " if(a)", ";", "", "}"}, {"module m(){comb", " if(a)", ";", " else;", "}"}, {"module m(){comb", " if(a);else", ";", "", "}"}, {"module m(){comb", " case(a){a:", ";", "}", "}"}, {"module m(){comb", " while(a)", ";", "", "}"}, {"module m(){comb", " for(a=1 to 2)", ";", "", "}"}, {"module m(){comb ", "cat(", "a", ")", "=1;}"},
		{"module m(){", "if(a):b{", ";", "}", "}"}, {"module m(){", "if(a):b{}else ", "if(a):b{}", "", "}"}, {"module m(){", "for(a=1 to 2):b{", "", "}", "}"},
		{"module m(){property p(rise a)", "[", "a", "]", "->a;}"}, {"module m(){property p(rise a)", "a then(1)", "a", "", "->a;}"}, {"module m(){property p(rise a)", "a or ", "a", "", "->a;}"}, {"module m(){property p(rise a)a", " times(1)", "", "", "->a;}"},
	} {
		times := (api.MaxText - len(x.before+x.middle+x.end)) / len(x.again+x.after)
		begin := x.before + strings.Repeat(x.again, times)
		whole := begin + x.middle + strings.Repeat(x.after, times) + x.end
		for _, text := range []string{whole, begin, whole[1:], whole + ")"} {
			for _, s := range []string{text, "const a=" + text} {
				f, l, e := parse.File(source(s))
				if (e == api.OK) != (len(f.Items) > 0) || (e == api.ErrSyntax) != (len(l) > 0) {
					t.Errorf("%.40q: %v %v", s, l, e)
				}
			}
			if n, e := parse.Expr(text); (e == api.OK) != (show(n) != "-") {
				t.Errorf("%.40q: %v", text, e)
			}
		}
	}
}

// Z2: results share no memory, and arguments are not kept.

// own adds the memory of all kids, with what their slices have in reserve, to that which was seen; it reports false if it was seen already.
func own(n syntax.Node, seen map[*syntax.Node]bool) bool {
	all := n.Kids[:cap(n.Kids)]
	for i := range all {
		if seen[&all[i]] {
			return false
		}
		seen[&all[i]] = true
	}
	return !slices.ContainsFunc(n.Kids, func(k syntax.Node) bool { return !own(k, seen) })
}

func TestMemory(t *testing.T) {
	text := ""
	for _, x := range items()[1:] {
		text += x.text
	}
	for _, x := range members() {
		text += "module m(){" + x.text + "}"
	}
	for _, x := range statements() {
		text += "module m(){comb " + x.text + "}"
	}
	s := source(text)
	lines := slices.Clone(s.Lines)
	seen := map[*syntax.Node]bool{}
	first, again := read(t, text), read(t, text)
	for _, f := range []syntax.File{first, again} {
		if !own(syntax.Node{Kids: f.Items}, seen) {
			t.Error("shared")
		}
	}
	for _, x := range append(expressions(), expressions()...) {
		if n, _ := parse.Expr(x.text); !own(n, seen) {
			t.Error("shared:", x.text)
		}
	}
	f, _, _ := parse.File(s)
	f.Lines[0].File = "changed"
	if !slices.Equal(s.Lines, lines) {
		t.Error("changed")
	}
	f, _, _ = parse.File(s)
	s.Lines[0].File = "changed"
	if !slices.Equal(f.Lines, lines) {
		t.Error("kept")
	}
}
