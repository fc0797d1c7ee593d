package parse_test

import (
	"slices"
	"strings"
	"testing"

	"maskwright/api"
	"maskwright/lex"
	"maskwright/parse"
	"maskwright/prep"
	"maskwright/syntax"
)

// source is a source without directives of the file f.
func source(text string) prep.Source {
	s := prep.Source{Text: text}
	for i := range strings.Count(text, "\n") + 1 {
		s.Lines = append(s.Lines, prep.Origin{File: "f", Line: i + 1, Whole: true})
	}
	return s
}

// P6.1: the trees of random sentences of the grammar, with all places.

func TestFilesOfTheGrammar(t *testing.T) {
	d := newDeriver(1)
	seen := 0
	for range 8000 {
		tokens, nodes := d.derive("File", 5+d.r.Intn(60), 600)
		text, places := d.lay(tokens)
		want := syntax.File{}
		for _, n := range nodes {
			want.Items = append(want.Items, placed(n, places))
		}
		if len(text) > api.MaxText || syntax.Check(want) != api.OK {
			continue
		}
		s := source(text)
		f, l, e := parse.File(s)
		if e != api.OK || len(l) > 0 || show(f.Items...) != show(want.Items...) || !slices.Equal(f.Lines, s.Lines) {
			t.Fatalf("%s\n%v %v\n%s\ninstead of\n%s", text, l, e, show(f.Items...), show(want.Items...))
		}
		seen++
	}
	if seen < 6000 {
		t.Error("only", seen, "files")
	}
	for _, k := range kindList[2:] {
		if d.used[k]+d.used["<"+k] < 30 {
			t.Error("only", d.used[k]+d.used["<"+k], "times", k)
		}
	}
}

func TestExpressionsOfTheGrammar(t *testing.T) {
	d := newDeriver(2)
	seen := 0
	for range 10000 {
		tokens, nodes := d.derive("Expr", 13+d.r.Intn(60), 80)
		text, places := d.lay(tokens)
		want := placed(nodes[0], places)
		if len(text) > api.MaxText || syntax.CheckExpr(want) != api.OK {
			continue
		}
		n, e := parse.Expr(text)
		if e != api.OK || show(n) != show(want) {
			t.Fatalf("%s\n%v\n%s\ninstead of\n%s", text, e, show(n), show(want))
		}
		seen++
	}
	if seen < 8000 {
		t.Error("only", seen, "expressions")
	}
}

// P6.2: the first token with which no source can go on.

// spoil changes tokens a little.
func (d *deriver) spoil(tokens []token) []token {
	vocabulary := append(append(lex.Words(), lex.Signs()...), "NAME", "NAME", "NUMBER", "STRING")
	tokens = slices.Clone(tokens)
	at := d.r.Intn(len(tokens) + 1)
	other := d.token(vocabulary[d.r.Intn(len(vocabulary))])
	switch d.r.Intn(6) {
	case 0:
		return tokens[:at]
	case 1:
		return slices.Insert(tokens, at, other)
	case 2:
		to := d.r.Intn(len(tokens) + 1)
		return slices.Delete(tokens, min(at, to), min(max(at, to), min(at, to)+3))
	}
	if at == len(tokens) {
		return append(tokens, other)
	}
	if d.r.Intn(3) == 0 {
		other = tokens[d.r.Intn(len(tokens))]
	}
	tokens[at] = other
	return tokens
}

// symbolsOf returns the symbols of tokens.
func symbolsOf(tokens []token) []string {
	var list []string
	for _, t := range tokens {
		list = append(list, t.symbol)
	}
	return list
}

func TestFirstBadToken(t *testing.T) {
	d := newDeriver(3)
	g := newRecognizer("File")
	bad := map[string]int{}
	for range 8000 {
		tokens, _ := d.derive("File", 5+d.r.Intn(40), 60)
		tokens = d.spoil(tokens)
		text, places := d.lay(tokens)
		at := g.firstBad(symbolsOf(tokens))
		s := source(text)
		f, l, e := parse.File(s)
		if at < 0 {
			if e != api.OK || len(l) > 0 {
				t.Fatalf("%s\n%v %v", text, l, e)
			}
			bad[""]++
			continue
		}
		want := api.Note{File: "f", Line: places[at][0], Col: places[at][1], Code: api.ErrSyntax}
		what := "END"
		if at < len(tokens) {
			what, want.Text = tokens[at].symbol, tokenOf(tokens[at].text).Text
		}
		if e != api.ErrSyntax || len(f.Items)+len(f.Lines) > 0 || len(l) != 1 || l[0] != want {
			t.Fatalf("%s\n%v %v instead of %v", text, l, e, want)
		}
		bad[what]++
	}
	for _, s := range slices.Concat(lex.Words(), lex.Signs(), []string{"NAME", "NUMBER", "STRING", "END", ""}) {
		if bad[s] < 3 {
			t.Errorf("only %d times %q", bad[s], s)
		}
	}
}

// Every beginning of a file can go on, so that nothing but the end is wrong with it.
func TestBeginnings(t *testing.T) {
	d := newDeriver(4)
	g := newRecognizer("File")
	for range 60 {
		tokens, _ := d.derive("File", 60, 60)
		for n := range tokens {
			text, places := d.lay(tokens[:n])
			_, l, e := parse.File(source(text))
			if g.firstBad(symbolsOf(tokens[:n])) < 0 {
				if e != api.OK || len(l) > 0 {
					t.Fatalf("%s\n%v %v", text, l, e)
				}
				continue
			}
			want := api.Note{File: "f", Line: places[n][0], Col: places[n][1], Code: api.ErrSyntax}
			if e != api.ErrSyntax || len(l) != 1 || l[0] != want {
				t.Fatalf("%s\n%v %v instead of %v", text, l, e, want)
			}
		}
	}
}

// P6.3

func TestBadExpressions(t *testing.T) {
	d := newDeriver(5)
	g := newRecognizer("Expr")
	seen := map[api.Errno]int{}
	for range 6000 {
		tokens, _ := d.derive("Expr", 13+d.r.Intn(60), 30)
		tokens = d.spoil(tokens)
		text, _ := d.lay(tokens)
		want := api.OK
		if g.firstBad(symbolsOf(tokens)) >= 0 {
			want = api.ErrSyntax
		}
		n, e := parse.Expr(text)
		if e != want || e != api.OK && show(n) != "-" {
			t.Fatalf("%s: %v instead of %v, %s", text, e, want, show(n))
		}
		seen[e]++
	}
	if seen[api.OK] < 300 || seen[api.ErrSyntax] < 3000 {
		t.Error(seen)
	}
}
