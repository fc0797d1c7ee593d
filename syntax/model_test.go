package syntax_test

import (
	"math/rand"
	"regexp"
	"slices"
	"strings"
	"testing"

	"maskwright/api"
	"maskwright/bits"
	"maskwright/lex"
	"maskwright/syntax"
)

// row is a row of the table of chapter 5.
type row struct {
	kind                     int
	classes, pattern, fields string
}

// rows is the table; the zero row is that of None.
var rows = []row{
	{syntax.None, "", "", ""},
	{syntax.Whole, "F", "I*", ""},
	{syntax.Module, "I", "pqb", "N"},
	{syntax.Interface, "I", "pi", "N"},
	{syntax.Params, "p", "P*", ""},
	{syntax.Param, "P", "E", "N"},
	{syntax.Ports, "q", "Q*", ""},
	{syntax.PortIn, "Q", "T", "N"},
	{syntax.PortOut, "Q", "T", "N"},
	{syntax.PortVar, "Q", "TE?", "N"},
	{syntax.PortView, "Q", "nn", "N"},
	{syntax.Body, "b", "M*", ""},
	{syntax.Inside, "i", "V*", ""},
	{syntax.Ident, "n", "", "N"},
	{syntax.Type, "T", "R?", "S"},
	{syntax.TypeName, "T", "", "N"},
	{syntax.Range, "R", "EE", ""},
	{syntax.Wire, "MV", "TD+", ""},
	{syntax.Var, "Mv", "TD+", ""},
	{syntax.Decl, "D", "R?E?", "N"},
	{syntax.Const, "IM", "E", "N"},
	{syntax.Enum, "IM", "Rm+", "N"},
	{syntax.EnumItem, "m", "E?", "N"},
	{syntax.Struct, "IM", "f+", "N"},
	{syntax.Field, "f", "T", "N"},
	{syntax.View, "V", "d+", "N"},
	{syntax.DirIn, "d", "", "N"},
	{syntax.DirOut, "d", "", "N"},
	{syntax.Function, "IM", "Tah", "N"},
	{syntax.Args, "a", "g*", ""},
	{syntax.Arg, "g", "T", "N"},
	{syntax.Inner, "h", "v*S*", ""},
	{syntax.Assign, "M", "tE", ""},
	{syntax.Comb, "M", "S", ""},
	{syntax.Seq, "M", "eS", ""},
	{syntax.Always, "M", "S", ""},
	{syntax.Initial, "M", "S", ""},
	{syntax.Edges, "e", "G+", ""},
	{syntax.EdgeAny, "G", "t", ""},
	{syntax.EdgeRise, "G", "t", ""},
	{syntax.EdgeFall, "G", "t", ""},
	{syntax.Inst, "M", "nxx", "N"},
	{syntax.Link, "M", "nx", "N"},
	{syntax.Binds, "x", "B*", ""},
	{syntax.Bind, "B", "E", "N"},
	{syntax.GenFor, "M", "nEEb", "N"},
	{syntax.GenIf, "Mw", "Ebw?", "N"},
	{syntax.GenElse, "w", "b", "N"},
	{syntax.PropSame, "M", "tXX", "N"},
	{syntax.PropNext, "M", "tXX", "N"},
	{syntax.SeqHold, "X", "E", ""},
	{syntax.SeqThen, "X", "XEu?X", ""},
	{syntax.SeqOr, "X", "XX+", ""},
	{syntax.SeqAnd, "X", "XX", ""},
	{syntax.SeqTimes, "X", "XEu?", ""},
	{syntax.Star, "u", "", ""},
	{syntax.Block, "S", "S*", ""},
	{syntax.If, "S", "ESS?", ""},
	{syntax.Case, "S", "EC*", ""},
	{syntax.CaseZ, "S", "EC*", ""},
	{syntax.CaseX, "S", "EC*", ""},
	{syntax.CaseItem, "C", "E*S", ""},
	{syntax.While, "S", "ES", ""},
	{syntax.Repeat, "S", "ES", ""},
	{syntax.ForUp, "S", "EES", "N"},
	{syntax.ForDown, "S", "EES", "N"},
	{syntax.Set, "S", "tEE?", ""},
	{syntax.Put, "S", "tEE?", ""},
	{syntax.Delay, "S", "E", ""},
	{syntax.On, "S", "e", ""},
	{syntax.Wait, "S", "E", ""},
	{syntax.Show, "S", "E*", "X"},
	{syntax.Write, "S", "E*", "X"},
	{syntax.Strobe, "S", "E*", "X"},
	{syntax.Monitor, "S", "E*", "X"},
	{syntax.Assert, "S", "E", "X"},
	{syntax.Stop, "S", "", ""},
	{syntax.Nop, "S", "", ""},
	{syntax.Num, "Eu", "", "V"},
	{syntax.Name, "Eut", "", "N"},
	{syntax.Select, "Eut", "E", "N"},
	{syntax.Index, "Eut", "EE", ""},
	{syntax.Slice, "Eut", "EEE", ""},
	{syntax.Part, "Eut", "EEE", ""},
	{syntax.Call, "Eu", "E*", "N"},
	{syntax.Plus, "Eu", "E", ""},
	{syntax.Neg, "Eu", "E", ""},
	{syntax.LNot, "Eu", "E", ""},
	{syntax.Not, "Eu", "E", ""},
	{syntax.RedAnd, "Eu", "E", ""},
	{syntax.RedOr, "Eu", "E", ""},
	{syntax.RedXor, "Eu", "E", ""},
	{syntax.Mul, "Eu", "EE", ""},
	{syntax.Div, "Eu", "EE", ""},
	{syntax.Mod, "Eu", "EE", ""},
	{syntax.Add, "Eu", "EE", ""},
	{syntax.Sub, "Eu", "EE", ""},
	{syntax.Shl, "Eu", "EE", ""},
	{syntax.Shr, "Eu", "EE", ""},
	{syntax.Sar, "Eu", "EE", ""},
	{syntax.Lt, "Eu", "EE", ""},
	{syntax.Le, "Eu", "EE", ""},
	{syntax.Gt, "Eu", "EE", ""},
	{syntax.Ge, "Eu", "EE", ""},
	{syntax.Eq, "Eu", "EE", ""},
	{syntax.Ne, "Eu", "EE", ""},
	{syntax.CaseEq, "Eu", "EE", ""},
	{syntax.CaseNe, "Eu", "EE", ""},
	{syntax.And, "Eu", "EE", ""},
	{syntax.Xor, "Eu", "EE", ""},
	{syntax.Or, "Eu", "EE", ""},
	{syntax.LAnd, "Eu", "EE", ""},
	{syntax.LOr, "Eu", "EE", ""},
	{syntax.Cond, "Eu", "EEE", ""},
	{syntax.Cat, "Eut", "E+", ""},
	{syntax.Rep, "Eu", "EE", ""},
	{syntax.Signed, "Eu", "E", ""},
	{syntax.Unsigned, "Eu", "E", ""},
	{syntax.Size, "Eu", "EE", ""},
	{syntax.Width, "Eu", "E", ""},
	{syntax.Log, "Eu", "E", ""},
	{syntax.Now, "Eu", "", ""},
}

// selecting are the kinds that select a part of their first kid.
var selecting = []int{syntax.Select, syntax.Index, syntax.Slice, syntax.Part}

// of returns the row of a kind, and the zero row for a number that is none.
func of(kind int) row {
	if kind < 0 || kind >= len(rows) {
		return row{}
	}
	return rows[kind]
}

// within are the kinds of a class.
func within(class byte) []int {
	var list []int
	for _, r := range rows {
		if strings.IndexByte(r.classes, class) >= 0 {
			list = append(list, r.kind)
		}
	}
	return list
}

// The model of P5.1 writes kids as a text, `-` for None and `;` with its classes for another one, from which each letter of a pattern removes its kids with a regular expression.

var (
	letter    = regexp.MustCompile(`[A-Za-z][*+?]?`)
	printable = regexp.MustCompile(`^[ -~]*\z`)
	taking    = map[string]*regexp.Regexp{} // for each letter with its mark
)

// modelMatch returns the letters that took the kids; false if they do not have the form of the pattern.
func modelMatch(pattern string, kids []syntax.Node) (string, bool) {
	text := ""
	for _, k := range kids {
		if k.Kind == syntax.None {
			text += "-"
		} else {
			text += ";" + of(k.Kind).classes
		}
	}
	places := ""
	for _, l := range letter.FindAllString(pattern, -1) {
		one, least := `;\w*`, 1
		switch l[1:] {
		case "?":
			one = `;\w*|-`
		case "+":
			one = `(;\w*` + l[:1] + `\w*)+`
		case "*":
			one, least = `(;\w*`+l[:1]+`\w*)*`, 0
		}
		if taking[l] == nil {
			taking[l] = regexp.MustCompile(`^(` + one + `)`)
		}
		took := taking[l].FindString(text)
		n := strings.Count(took, ";") + strings.Count(took, "-")
		if n < least {
			return "", false
		}
		places += strings.Repeat(l[:1], n)
		text = text[len(took):]
	}
	return places, text == ""
}

// modelDangles follows the last kids of a statement.
func modelDangles(n syntax.Node) bool {
	want := map[int]int{syntax.If: 3, syntax.While: 2, syntax.Repeat: 2, syntax.ForUp: 3, syntax.ForDown: 3}
	for len(n.Kids) > 0 && len(n.Kids) == want[n.Kind] {
		last := n.Kids[len(n.Kids)-1]
		if n.Kind == syntax.If && last.Kind == syntax.None {
			return true
		}
		n = last
	}
	return false
}

// place is a node that is still to be looked at, and what is permitted there.
type place struct {
	n     syntax.Node
	class string
	noCat bool
}

// modelCheck is the model of P5.2.
func modelCheck(n syntax.Node, class string) api.Errno {
	if count, depth := size(n); count > 4000 || depth > 60 {
		return api.ErrLarge
	}
	todo := []place{{n: n, class: class}}
	for len(todo) > 0 {
		p := todo[0]
		todo = todo[1:]
		if p.class == "" { // the place of a kid that is missing
			if p.n.Name+p.n.Text != "" || p.n.Signed || p.n.Num != (api.Bits{}) || len(p.n.Kids) > 0 {
				return api.ErrForm
			}
			continue
		}
		for _, e := range modelNode(p) {
			if e != api.OK {
				return e
			}
		}
		todo = append(modelKids(p), todo...)
	}
	return api.OK
}

// modelNode has what each of the checks of a node finds, in order.
func modelNode(p place) []api.Errno {
	n, r := p.n, of(p.n.Kind)
	when := func(bad bool, e api.Errno) api.Errno {
		if bad {
			return e
		}
		return api.OK
	}
	has := func(field string) bool { return strings.Contains(r.fields, field) }
	_, fits := modelMatch(r.pattern, n.Kids)
	return []api.Errno{
		when(p.noCat && n.Kind == syntax.Cat, api.ErrType),
		when(n.Kind < 0 || n.Kind >= len(rows) || n.Kind != 0 && min(n.Line, n.Col) < 0, api.ErrRange),
		when(!strings.Contains(r.classes, p.class), api.ErrType),
		when(has("N") && n.Name == "" || !has("N") && n.Name != "", api.ErrForm),
		when(has("N") && !lex.Quoted(n.Name), api.ErrName),
		when(has("V") && bits.Check(n.Num) != api.OK || !has("V") && n.Num != api.Bits{}, api.ErrForm),
		when(!has("V") && !has("S") && n.Signed || !has("X") && n.Text != "", api.ErrForm),
		when(len(n.Text) > 200, api.ErrLarge),
		when(!printable.MatchString(n.Text), api.ErrForm),
		when(!fits, api.ErrForm),
		when(fits && n.Kind == syntax.If && n.Kids[2].Kind != syntax.None && modelDangles(n.Kids[1]), api.ErrForm),
	}
}

// modelKids are the places of the kids of a node that has the form of its pattern.
func modelKids(p place) []place {
	letters, _ := modelMatch(of(p.n.Kind).pattern, p.n.Kids)
	var list []place
	for i, k := range p.n.Kids {
		q := place{n: k, class: letters[i : i+1]}
		first := i == 0 && slices.Contains(selecting, p.n.Kind)
		if first || p.n.Kind == syntax.Cat && p.class == "t" {
			q.class, q.noCat = "t", first
		}
		if k.Kind == syntax.None {
			q.class = ""
		}
		list = append(list, q)
	}
	return list
}

// size is the model of Measure: it counts by levels.
func size(n syntax.Node) (int, int) {
	count, depth := 0, 0
	for level := []syntax.Node{n}; len(level) > 0; depth++ {
		var below []syntax.Node
		for _, k := range level {
			count++
			below = append(below, k.Kids...)
		}
		level = below
	}
	return count, depth
}

// ignored returns a tree with other lines and columns, and with nil for kids that are not there.
func ignored(n syntax.Node) syntax.Node {
	n.Line, n.Col = n.Line+5, n.Col-3
	kids := n.Kids
	n.Kids = nil
	for _, k := range kids {
		n.Kids = append(n.Kids, ignored(k))
	}
	return n
}

func TestModel(t *testing.T) {
	r := rand.New(rand.NewSource(5))
	seen := map[api.Errno]int{}
	kinds := map[int]int{}
	for range 20000 {
		class := "FE"[r.Intn(2)]
		n := grow(r, class, r.Intn(8))
		for range r.Intn(4) {
			spoil(r, &n)
		}
		if class == 'F' {
			n = syntax.Node{Kind: syntax.Whole, Kids: n.Kids}
		}
		before := copyOf(n)
		e := syntax.CheckExpr(n)
		if class == 'F' {
			e = syntax.Check(syntax.File{Items: n.Kids})
		}
		if want := modelCheck(n, string(class)); e != want {
			t.Fatalf("%v instead of %v: %+v", e, want, n)
		}
		if texts(n) != texts(before) {
			t.Fatalf("changed: %+v", n)
		}
		seen[e]++
		if e == api.OK {
			syntax.Walk(n, func(n syntax.Node) bool { kinds[n.Kind]++; return true })
		}
	}
	for _, e := range []api.Errno{api.OK, api.ErrRange, api.ErrType, api.ErrForm, api.ErrName, api.ErrLarge} {
		if seen[e] < 100 {
			t.Error("only", seen[e], "times", e)
		}
	}
	for _, k := range rows {
		if kinds[k.kind] < 10 {
			t.Error("only", kinds[k.kind], "times kind", k.kind)
		}
	}
	t.Log(seen)
}

// Each kind belongs to its classes, and to no other one.
func TestClasses(t *testing.T) {
	r := rand.New(rand.NewSource(7))
	classes := hosts()
	for class := range classes {
		letters := string(class)
		if class == 'v' || class == 'S' {
			letters = "vS" // an Inner, in which they are, permits both in the same place
		}
		for _, row := range rows[1:] {
			n := hold(r, class, fill(r, row.kind, class, 0))
			want := modelCheck(n, "F")
			if (want == api.OK) != strings.ContainsAny(row.classes, letters) {
				t.Errorf("model: %v for kind %d in a place %c", want, row.kind, class)
			}
			if e := syntax.Check(syntax.File{Items: n.Kids}); e != want {
				t.Errorf("%v instead of %v for kind %d in a place %c", e, want, row.kind, class)
			}
		}
	}
	if len(classes) != 31 {
		t.Error(len(classes), "classes")
	}
}

func TestModelOfTrees(t *testing.T) {
	r := rand.New(rand.NewSource(6))
	same := 0
	for range 20000 {
		a := grow(r, "FES"[r.Intn(3)], r.Intn(6))
		b := ignored(a)
		for range r.Intn(3) {
			spoil(r, &b)
		}
		want := texts(a) == texts(b)
		if syntax.Same(a, b) != want || syntax.Same(b, a) != want {
			t.Fatalf("same: %+v %+v", a, b)
		}
		if want {
			same++
		}
		count, depth := size(a)
		if n, d := syntax.Measure(a); n != count || d != depth {
			t.Fatalf("%d %d instead of %d %d: %+v", n, d, count, depth, a)
		}
	}
	if same < 1000 || same > 19000 {
		t.Error(same)
	}
}
