package parse_test

import (
	"slices"
	"strings"
	"testing"

	"maskwright/api"
	"maskwright/lex"
	"maskwright/parse"
	"maskwright/prep"
)

// checkBad tests the error of a source, and its message, if there is one.
func checkBad(t *testing.T, s prep.Source, e api.Errno, want ...api.Note) {
	t.Helper()
	f, l, got := parse.File(s)
	if got != e || !slices.Equal(l, want) || len(f.Items)+len(f.Lines) > 0 {
		t.Errorf("%.200q: %v %v instead of %v %v", s.Text, l, got, want, e)
	}
}

// at is the message of an error at a place of the file f.
func at(line, col int, e api.Errno, text string) api.Note {
	return api.Note{File: "f", Line: line, Col: col, Code: e, Text: text}
}

// checkTokens tests texts behind another one, of which the token behind ‸ is the first one that is wrong.
func checkTokens(t *testing.T, before string, list ...string) {
	t.Helper()
	for _, text := range list {
		good, rest, found := strings.Cut(before+text, "‸")
		l, _, _, e := lex.Tokens(rest)
		if !found || e != api.OK || strings.HasPrefix(rest, " ") {
			t.Fatal(text, e)
		}
		checkBad(t, source(good+rest), api.ErrSyntax, at(1, len(good)+1, api.ErrSyntax, l[0].Text))
	}
}

// P6.2: the first token with which no source can go on.

func TestBadItems(t *testing.T) {
	checkTokens(t, "",
		"‸a", "‸;", "‸wire a;", "‸assign a = 1;", "‸5", `‸"x y"`, `‸\a$ `, "‸else",
		"module‸", "module ‸module", "module m ‸{ }", "module m ‸;", "module m () ‸;", "module m () { } ‸}", "module m () {‸", "module m () { }‸;",
		"module m #‸a", "module m #(‸)", "module m #(‸in", "module m #(a‸)", "module m #(a = 1,‸)", "module m #(a = 1) ‸#", "module m () ‸#(a = 1)",
		"module m (‸var a)", "module m (a‸)", "module m (a.b‸,", "module m (a.b c‸.", "module m (in a b ‸c)", "module m (in a ‸= 1)", "module m (out a ‸= 1)",
		"module m (out var a = 1 ‸2)", "module m (in ‸var a)", "module m (out ‸in a)", "module m (in signed a ‸b)", "module m (in signed ‸signed a)",
		"module m (in t ‸[3:0] a)", "module m (in t a ‸[3:0])", "module m (in [3‸] a)", "module m (in [3 ‸+: 2] a)", "module m (in [3:0] a ‸b)",
		"module m (in ‸)", "module m (in a,‸)", "module m (in a ‸in b)", "module m (‸,", "module m (in a‸",
		"interface i ‸(", "interface i { ‸var a; }", "interface i { ‸const", "interface i { wire ‸;", "interface i { view v ‸;", "interface i { view v (‸)",
		"interface i { view v (in ‸[", "interface i { view v (in a) ‸}", "interface i { view v (in a, ‸b", "interface i { view ‸(", "interface i { wire a;‸",
		"const ‸[", "const a‸;", "const a = ‸;", "const a = 1‸", "const a = 1 ‸2;", "const a = 1 ‸, b = 2;",
		"enum ‸a { b }", "enum ‸signed [1:0] a { b }", "enum [1:0] ‸{", "enum [1:0] e { ‸}", "enum [1:0] e { a ‸b }", "enum [1:0] e { a, ‸}", "enum [1:0] e { a } ‸;",
		"struct s { ‸}", "struct s { a‸, b; }", "struct s { a; } ‸;", "struct s { a; signed‸; }", "struct s { a ‸[3:0]; }", "struct s { t a ‸= 1; }", "struct ‸{",
		"function f‸;", "function ‸(", "function f() ‸;", "function f(‸in a)", "function f(a ‸= 1)", "function f(a,‸)", "function f() { a = 1; ‸var b; }",
		"function f() { ‸wire a; }", "function f() { ‸const", "function t ‸[1:0] f()", "function f() {‸",
	)
}

func TestBadMembers(t *testing.T) {
	checkTokens(t, "module m () { ",
		"‸a = 1; }", "‸; }", "‸module", "‸view", "‸{ }", "‸else", "wire a ‸}", "wire ‸;", "wire a b ‸c;", "wire a, ‸[", "wire a = 1 ‸[1:0];", "wire a [1‸];", "wire a [1:0] ‸[1:0];", "var a‸.b", "var a b‸",
		"assign a ‸<= 1;", "assign ‸(a) = 1;", "assign a = ‸after (1) b;", "assign cat(‸) = 1;", "assign cat(a, ‸1) = 1;", "assign cat(a)‸[0] = 1;", "assign a‸(b) = 1;", "assign a ‸+ b = 1;", "assign a = 1‸",
		"comb ‸}", "comb ‸wire", "seq ‸a", "seq (‸)", "seq (rise ‸rise a)", "seq (a ‸or b)", "seq (a) ‸}", "seq (a,‸)", "always ‸(", "initial ‸->",
		"inst a ‸b", "inst a: b‸;", "inst a: b #(‸)", "inst a: b #(c = 1)‸;", "inst a: b (c‸)", "inst a: b (c = ‸)", "inst a: b () ‸}", "inst a: b () ‸()", "inst a: b #‸c",
		"link a: b ‸()", "link a: b #(‸)", "link a ‸;", "link a: b ‸}",
		"for (a = 1 ‸downto 0)", "for (a = 1 to 2) ‸{", "for (a = 1 to 2) : ‸{", "for (a = 1 to 2) : b ‸wire", "for (a‸.b", "for ‸a",
		"if (a) ‸{", "if (a) : ‸{", "if (a) : b ‸;", "if (a) : b { ‸; }", "if (a) : b { } else ‸{", "if (a) : b { } else : ‸{", "if (a) : b { } else : c { } ‸else", "if ‸a", "if (a) : b { } else if (a) ‸{",
		"property p (‸a)", "property p (‸fall a)", "property p (rise a‸, rise b)", "property p ‸rise", "property ‸(",
	)
}

func TestBadSequences(t *testing.T) {
	checkTokens(t, "module m () { property p (rise clk) ",
		"[ ‸]", "‸or", "‸-> a", "‸;", "a ‸;", "a or ‸or", "a and ‸-> b", "a[b ‸-> c", "[a ‸-> b]", "[a] ‸+ b", "(‸[a] -> b", "(a) ‸[b]", "a -> b‸", "a -> b ‸-> c", "a => b ‸}", "a - ‸> b", "a ‸= > b",
		"a then ‸b", "a then (1) ‸-> b", "a then (‸) b", "a then (‸*) b", "a then (1:‸) b", "a then (1:2‸:3) b", "a then (1:* ‸*) b", "a then (1 ‸, 2) b", "a then (1) b ‸c",
		"a times ‸2", "a times (2) ‸b", "a times (‸:3)", "a times (2:3‸;", "[a or b ‸; ",
	)
}

func TestBadStatements(t *testing.T) {
	checkTokens(t, "module m () { comb { ",
		"‸else", "‸var a;", "‸(", "‸5", `‸"a"`, "‸assign", "‸rise", "a ‸== 1;", "a ‸;", "a‸(", "a ‸+ b = c;", "a[1 ‸= c;", "a.‸1", "a = ‸;", "a = b ‸}", "a = b ‸after (1);", "a = after ‸b;",
		"a <= after (1) ‸;", "a = b ‸= c;", "cat(a ‸+ b) = c;", "cat(a) ‸;", "if ‸a", "if (a) ‸}", "if (a) ‸else ;", "if (a) ; else ‸}", "if (a) ; else ; ‸else ;", "if (a) ‸: b",
		"case ‸a", "case (a) ‸;", "case (a) { ‸; }", "case (a) { b ‸; }", "case (a) { default ‸, b: ; }", "case (a) { b, ‸default: ; }", "case (a) { b: ‸}", "case (a) { b, ‸: ; }", "case (a) { } ‸else", "casez (a) { b:‸", "casex ‸{",
		"while ‸a", "while (a) ‸}", "repeat (‸)", "repeat ‸3", "for (‸cat(a)", "for (a‸.b", "for (a = 1 ‸; a", "for (a = 1 to 2) ‸: b", "for (a = 1 downto ‸) ;",
		"delay ‸;", "delay 1 ‸2;", "on ‸a;", "on (a) ‸}", "wait ‸a;", "wait (a) ‸}", "stop ‸(", "stop ‸}", "check ‸a;", "check(‸)", `check(‸"a")`, "check(a, ‸b)", `check(a, "b"‸, c)`, `check(a ‸"b")`,
		"show(‸)", "show(‸a)", `show("a" ‸a)`, `show("a",‸)`, `show("a")‸}`, `write ‸"a"`, `strobe("a", b ‸;`, `monitor("a", ‸"b")`,
	)
}

func TestBadOperands(t *testing.T) {
	checkTokens(t, "const c = ",
		"‸", "‸)", "‸]", "‸* a", "‸=", "‸? a", "‸[a]", "‸.a", "‸#", `‸"a"`, "‸rise", "(‸)", "(a‸", "(a‸]", "(a) ‸(b)", "(a)‸[b]", "(a)‸.b", "a ‸b", "a ‸1", "1‸(2)", "1‸[2]", "1‸.a", "a ‸{", "a ‸!b", "a ‸~b", "now‸(", "now‸.a",
		"a +‸", "a + ‸* b", "a || ‸|| b", "a ? ‸: b", "a ? b ‸;", "a ? b : ‸;", "a ? b : c ‸: d", "a.‸1", "a.‸", "a.‸[", "a.b ‸c", "a[‸]", "a[b ‸, c]", "a[b:c‸:d]", "a[b +: c ‸+: d]", "a[b +‸", "a[b +: ‸]", "a[‸:b]", "a[b‸;",
		"f(‸,", "f(a,‸)", "f(a ‸b)", "f(a‸;", "f()‸(", "f()‸[0]", "f()‸.a", "-‸", "-‸/", "a ‸=> b", "a ‸-> b", "a ‸to b", "a ‸= b",
		"cat ‸a", "cat(‸)", "cat(a,‸)", "cat(a)‸[0]", "rep(a‸)", "rep(a, b‸, c)", "rep(‸)", "size(a‸)", "size(a, b‸, c)", "signed ‸a", "signed(‸)", "signed(a‸, b)", "unsigned(a‸, b)", "width(a‸, b)", "width(‸)", "log(a‸, b)", "log ‸a",
	)
}
