package parse_test

import (
	"testing"

	"maskwright/api"
	"maskwright/lex"
	"maskwright/parse"
	"maskwright/syntax"
)

// read reads a source that is right.
func read(t *testing.T, text string) syntax.File {
	t.Helper()
	f, l, e := parse.File(source(text))
	if e != api.OK || len(l) > 0 {
		t.Errorf("%q: %v %v", text, l, e)
	}
	return f
}

// bodyOf reads the members of a module.
func bodyOf(t *testing.T, text string) []syntax.Node {
	t.Helper()
	f := read(t, text)
	if len(f.Items) == 0 {
		return nil
	}
	return f.Items[0].Kids[2].Kids
}

// check tests the trees of an example.
func check(t *testing.T, x example, got []syntax.Node) {
	t.Helper()
	if show(got...) != x.want {
		t.Errorf("%s:\n%s\ninstead of\n%s", x.text, show(got...), x.want)
	}
}

// P6.1: trees and places.

func TestItems(t *testing.T) {
	text, want := "", 0
	for _, x := range items() {
		n := read(t, x.text).Items
		check(t, x, n)
		text += x.text
		want += len(n)
	}
	if n := len(read(t, text).Items); n != want || n != len(items())-1 {
		t.Error(n, "items instead of", want)
	}
}

func TestMembers(t *testing.T) {
	text, want := "module m(){", 0
	for _, x := range members() {
		check(t, x, bodyOf(t, "module m(){"+x.text+"}"))
		text += x.text
		want++
	}
	if n := len(bodyOf(t, text+"}")); n != want {
		t.Error(n, "members instead of", want)
	}
}

func TestStatements(t *testing.T) {
	text, want := "module m(){comb {", 0
	for _, x := range statements() {
		if body := bodyOf(t, "module m(){comb "+x.text+"}"); len(body) == 1 {
			check(t, x, body[0].Kids)
		}
		text += x.text
		want++
	}
	if body := bodyOf(t, text+"}}"); len(body) != 1 || len(body[0].Kids[0].Kids) != want {
		t.Error(show(body...))
	}
}

func TestExpressions(t *testing.T) {
	for _, x := range expressions() {
		n, e := parse.Expr(x.text)
		if e != api.OK {
			t.Errorf("%s: %v", x.text, e)
		}
		check(t, x, []syntax.Node{n})
	}
}

// The example of the chapter.
func TestExample(t *testing.T) {
	n, e := parse.Expr("a ? b : c + 1")
	want := "(Cond:1 (Name:1 a) (Name:5 b) (Add:9 (Name:9 c) (Num:13+ 1)))"
	if e != api.OK || show(n) != want || n.Kids[2].Kids[1].Num != (api.Bits{W: 32, V: 1}) {
		t.Error(show(n), e)
	}
}

// levels are the signs of the rules E1 to E10, with their kinds.
func levels() [][]struct {
	sign string
	kind int
} {
	type sign = struct {
		sign string
		kind int
	}
	return [][]sign{
		{{"||", syntax.LOr}}, {{"&&", syntax.LAnd}}, {{"|", syntax.Or}}, {{"^", syntax.Xor}}, {{"&", syntax.And}},
		{{"==", syntax.Eq}, {"!=", syntax.Ne}, {"===", syntax.CaseEq}, {"!==", syntax.CaseNe}},
		{{"<", syntax.Lt}, {"<=", syntax.Le}, {">", syntax.Gt}, {">=", syntax.Ge}},
		{{"<<", syntax.Shl}, {">>", syntax.Shr}, {">>>", syntax.Sar}},
		{{"+", syntax.Add}, {"-", syntax.Sub}}, {{"*", syntax.Mul}, {"/", syntax.Div}, {"%", syntax.Mod}},
	}
}

// Of two operations, the one of the later rule binds stronger, and of one rule the first one.
func TestPairsOfOperations(t *testing.T) {
	for i, first := range levels() {
		for j, second := range levels() {
			for _, x := range first {
				for _, y := range second {
					text := "a " + x.sign + " -b " + y.sign + " c ? d : e"
					n, e := parse.Expr(text)
					if e != api.OK || n.Kind != syntax.Cond || len(n.Kids) != 3 {
						t.Fatal(text, e, show(n))
					}
					n = n.Kids[0]
					outer, inner, side := y.kind, x.kind, 0
					if i < j {
						outer, inner, side = x.kind, y.kind, 1
					}
					if n.Kind != outer || n.Kids[side].Kind != inner || n.Col != 1 {
						t.Error(text, show(n))
					}
				}
			}
		}
	}
}

func TestLines(t *testing.T) {
	text := "// x\n\tmodule /* a\n b */ m\n(\n)\n{\n  wire\n\ta\n;}\n\nconst c\n= (\n1) + b;"
	got := show(read(t, text).Items...)
	if want := "(Module:2.2 m (Params:4.1) (Ports:4.1) (Body:6.1 (Wire:7.3 (Type:8.2 -) (Decl:8.2 a - -)))) (Const:11.1 c (Add:12.3 (Num:13.1+ 1) (Name:13.6 b)))"; got != want {
		t.Errorf("%s\ninstead of\n%s", got, want)
	}
	n, e := parse.Expr(" \n a\n  .b\n[\n1]")
	if want := "(Index:2.2 (Select:2.2 b (Name:2.2 a)) (Num:5.1+ 1))"; e != api.OK || show(n) != want {
		t.Error(show(n), e)
	}
}

// A quoted name and a string are no signs and no words, whatever they contain.
func TestQuotedSymbols(t *testing.T) {
	for _, s := range append(lex.Words(), lex.Signs()...) {
		if !lex.Quoted(s) {
			continue
		}
		n, e := parse.Expr(`\` + s + ` `)
		if e != api.OK || n.Kind != syntax.Name || n.Name != s {
			t.Error(s, show(n), e)
		}
		n, e = parse.Expr(`\` + s + ` + \` + s + ` (\` + s + ` .\` + s + ` )`)
		if e != api.OK || n.Kind != syntax.Add || n.Kids[1].Kind != syntax.Call || n.Kids[1].Name != s || n.Kids[1].Kids[0].Name != s {
			t.Error(s, show(n), e)
		}
		if _, e := parse.Expr(`a \` + s + ` b`); e != api.ErrSyntax {
			t.Error(s, e)
		}
	}
	for _, s := range []string{`"("a)`, `("a"]`, `a "+" b`, `"a"`, `cat(a "," b)`, `""`} {
		if _, e := parse.Expr(s); e != api.ErrSyntax {
			t.Error(s, e)
		}
	}
	body := bodyOf(t, "module m () { wire \\wire \\; , \\,\n; }")
	if want := "(Wire:15 (TypeName:20 wire) (Decl:26 ; - -) (Decl:31 , - -))"; show(body...) != want {
		t.Error(show(body...))
	}
}
