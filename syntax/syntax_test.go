package syntax_test

import (
	"fmt"
	"slices"
	"strings"
	"testing"

	"maskwright/api"
	"maskwright/prep"
	"maskwright/syntax"
)

// with is a node with kids.
func with(kind int, kids ...syntax.Node) syntax.Node { return syntax.Node{Kind: kind, Kids: kids} }

// named is a node with a name.
func named(kind int, name string, kids ...syntax.Node) syntax.Node {
	return syntax.Node{Kind: kind, Name: name, Kids: kids}
}

// ref is a name in an expression.
func ref(s string) syntax.Node { return named(syntax.Name, s) }

// num is a number.
func num() syntax.Node { return syntax.Node{Kind: syntax.Num, Num: api.Bits{W: 2, V: 1}} }

// missing is the node of a part that is not there.
func missing() syntax.Node { return syntax.Node{} }

// set is a valid statement.
func set() syntax.Node { return with(syntax.Set, ref("a"), num(), missing()) }

// file is a file of a module with members.
func file(members ...syntax.Node) syntax.File {
	return syntax.File{Items: []syntax.Node{named(syntax.Module, "m", with(syntax.Params), with(syntax.Ports), with(syntax.Body, members...))}}
}

// texts writes a tree without lines and columns.
func texts(n syntax.Node) string {
	var b strings.Builder
	fmt.Fprintf(&b, "(%d %q %q %v %v", n.Kind, n.Name, n.Text, n.Num, n.Signed)
	for _, k := range n.Kids {
		b.WriteString(texts(k))
	}
	return b.String() + ")"
}

// checkExpr tests what CheckExpr says about a tree.
func checkExpr(t *testing.T, n syntax.Node, want api.Errno) {
	t.Helper()
	if e := syntax.CheckExpr(n); e != want {
		t.Errorf("%s: %v instead of %v", texts(n), e, want)
	}
}

// checkBody tests what Check says about a file of a module with members.
func checkBody(t *testing.T, want api.Errno, members ...syntax.Node) {
	t.Helper()
	if e := syntax.Check(file(members...)); e != want {
		t.Errorf("%s: %v instead of %v", texts(with(syntax.Body, members...)), e, want)
	}
}

// checkStatement tests what Check says about a file with a statement.
func checkStatement(t *testing.T, n syntax.Node, want api.Errno) {
	t.Helper()
	checkBody(t, want, with(syntax.Initial, n))
}

// The kinds are numbered in the order of the table.

func TestKinds(t *testing.T) {
	for i, r := range rows {
		if r.kind != i {
			t.Errorf("kind %d in row %d", r.kind, i)
		}
	}
	if len(rows) != syntax.Now+1 || syntax.MaxNodes != 4000 || syntax.MaxDepth != 60 {
		t.Error(len(rows), syntax.MaxNodes, syntax.MaxDepth)
	}
}

// P5.1: how kids match a pattern.

func TestLetterAlone(t *testing.T) {
	checkExpr(t, with(syntax.Add, num(), ref("a")), api.OK)
	checkExpr(t, with(syntax.Add, num()), api.ErrForm)
	checkExpr(t, with(syntax.Add), api.ErrForm)
	checkExpr(t, with(syntax.Add, num(), num(), num()), api.ErrForm)
	checkExpr(t, with(syntax.Add, num(), missing()), api.ErrForm)
	checkExpr(t, with(syntax.Add, missing(), num()), api.ErrForm)
	checkExpr(t, with(syntax.Add, num(), num(), missing()), api.ErrForm)
	// It takes a kid of any class and of any number.
	checkExpr(t, with(syntax.Add, num(), with(syntax.Block)), api.ErrType)
	checkExpr(t, with(syntax.Add, num(), with(999)), api.ErrRange)
	checkExpr(t, with(syntax.Add, with(syntax.Block), num(), num()), api.ErrForm)
	checkExpr(t, with(syntax.Now), api.OK)
	checkExpr(t, with(syntax.Now, missing()), api.ErrForm)
}

func TestOptionalKid(t *testing.T) {
	checkStatement(t, with(syntax.If, num(), set(), missing()), api.OK)
	checkStatement(t, with(syntax.If, num(), set(), set()), api.OK)
	checkStatement(t, with(syntax.If, num(), set()), api.ErrForm)
	checkStatement(t, with(syntax.If, num(), set(), num()), api.ErrType)
	checkStatement(t, with(syntax.If, num(), set(), with(-1)), api.ErrRange)
	checkStatement(t, with(syntax.If, num(), missing(), set()), api.ErrForm)
	hold := with(syntax.SeqHold, num())
	prop := func(n syntax.Node) syntax.Node { return named(syntax.PropNext, "p", ref("clk"), hold, n) }
	for _, up := range []syntax.Node{missing(), with(syntax.Star), num()} {
		checkBody(t, api.OK, prop(with(syntax.SeqTimes, hold, num(), up)), prop(with(syntax.SeqThen, hold, num(), up, hold)))
	}
	checkBody(t, api.ErrForm, prop(with(syntax.SeqThen, hold, num(), hold)))
	checkBody(t, api.ErrType, prop(with(syntax.SeqThen, hold, num(), hold, hold)))
	checkBody(t, api.ErrForm, prop(with(syntax.SeqTimes, hold, missing(), num())))
	decl := func(kids ...syntax.Node) syntax.Node {
		return with(syntax.Wire, with(syntax.Type, missing()), named(syntax.Decl, "w", kids...))
	}
	size := with(syntax.Range, num(), num())
	checkBody(t, api.OK, decl(missing(), missing()), decl(size, missing()), decl(missing(), num()), decl(size, num()))
	checkBody(t, api.ErrForm, decl(missing()))
	checkBody(t, api.ErrType, decl(num(), missing()))
}

func TestRepeatedKids(t *testing.T) {
	checkExpr(t, with(syntax.Cat), api.ErrForm)
	checkExpr(t, with(syntax.Cat, num()), api.OK)
	checkExpr(t, with(syntax.Cat, num(), num(), num()), api.OK)
	checkExpr(t, with(syntax.Cat, num(), missing()), api.ErrForm)
	checkExpr(t, with(syntax.Cat, missing()), api.ErrForm)
	checkExpr(t, with(syntax.Cat, num(), with(syntax.Block)), api.ErrForm)
	checkExpr(t, with(syntax.Cat, num(), with(999)), api.ErrForm)
	checkExpr(t, named(syntax.Call, "f"), api.OK)
	checkExpr(t, named(syntax.Call, "f", num(), num()), api.OK)
	checkExpr(t, named(syntax.Call, "f", with(syntax.Star)), api.ErrForm)
	checkExpr(t, named(syntax.Call, "f", missing()), api.ErrForm)
	hold := with(syntax.SeqHold, num())
	checkBody(t, api.ErrForm, named(syntax.PropSame, "p", ref("clk"), with(syntax.SeqOr, hold), hold))
	checkBody(t, api.OK, named(syntax.PropSame, "p", ref("clk"), with(syntax.SeqOr, hold, hold, hold), hold))
}

// A letter that repeats takes all kids of its class, also one that a later letter needs.
func TestRepeatedKidsFirst(t *testing.T) {
	item := func(kids ...syntax.Node) syntax.Node {
		return with(syntax.Case, num(), with(syntax.CaseItem, kids...))
	}
	checkStatement(t, item(set()), api.OK)
	checkStatement(t, item(num(), num(), set()), api.OK)
	checkStatement(t, item(num()), api.ErrForm)
	checkStatement(t, item(), api.ErrForm)
	checkStatement(t, item(num(), set(), set()), api.ErrForm)
	checkStatement(t, item(num(), with(syntax.Star)), api.ErrType)
	checkStatement(t, item(num(), missing(), set()), api.ErrForm)
	inner := func(kids ...syntax.Node) syntax.Node {
		return named(syntax.Function, "f", with(syntax.Type, missing()), with(syntax.Args), with(syntax.Inner, kids...))
	}
	local := with(syntax.Var, with(syntax.Type, missing()), named(syntax.Decl, "v", missing(), missing()))
	checkBody(t, api.OK, inner(), inner(local), inner(set()), inner(local, local, set(), set()))
	checkBody(t, api.ErrForm, inner(local, set(), local))
	checkBody(t, api.ErrForm, inner(with(syntax.Wire, local.Kids...)))
}

// P5.2: the errors, in their order.

func TestPlaces(t *testing.T) {
	checkExpr(t, ref("q"), api.OK)
	checkExpr(t, missing(), api.ErrType)
	checkExpr(t, syntax.Node{Line: -1, Col: -1}, api.ErrType)
	checkExpr(t, set(), api.ErrType)
	checkExpr(t, with(syntax.Whole), api.ErrType)
	checkExpr(t, with(syntax.Star), api.ErrType)
	checkExpr(t, with(-1), api.ErrRange)
	checkExpr(t, with(syntax.Now+1), api.ErrRange)
	checkExpr(t, syntax.Node{Kind: syntax.Now, Line: -1}, api.ErrRange)
	checkExpr(t, syntax.Node{Kind: syntax.Now, Col: -1}, api.ErrRange)
	checkExpr(t, syntax.Node{Kind: syntax.Now, Line: 1 << 40, Col: 1 << 40}, api.OK)
	// The number is looked at before the class, the class before the name.
	checkExpr(t, syntax.Node{Kind: syntax.Stop, Line: -1}, api.ErrRange)
	checkExpr(t, named(syntax.Stop, "a"), api.ErrType)
	checkExpr(t, with(syntax.Now+1, num()), api.ErrRange)
}

func TestNames(t *testing.T) {
	long := strings.Repeat("a", api.MaxName)
	for name, want := range map[string]api.Errno{
		"a": api.OK, "if": api.OK, "0": api.OK, "a+b": api.OK, "~": api.OK, long: api.OK,
		"": api.ErrForm, "a.b": api.ErrName, "a b": api.ErrName, "a\n": api.ErrName, "é": api.ErrName, long + "a": api.ErrName,
	} {
		checkExpr(t, ref(name), want)
		checkExpr(t, named(syntax.Call, name), want)
		checkExpr(t, named(syntax.Select, name, ref("a")), want)
	}
	checkExpr(t, named(syntax.Now, "a"), api.ErrForm)
	checkExpr(t, named(syntax.Now, "a b"), api.ErrForm)
	// The name is looked at before the other fields and the kids.
	checkExpr(t, syntax.Node{Kind: syntax.Name, Name: "a b", Text: "x"}, api.ErrName)
	checkExpr(t, named(syntax.Name, "a b", num()), api.ErrName)
	checkExpr(t, named(syntax.Name, "a", num()), api.ErrForm)
}

func TestFields(t *testing.T) {
	for i, x := range []struct {
		n    syntax.Node
		want api.Errno
	}{
		{syntax.Node{Kind: syntax.Num}, api.ErrForm},
		{syntax.Node{Kind: syntax.Num, Num: api.Bits{W: 2, V: 4}}, api.ErrForm},
		{syntax.Node{Kind: syntax.Num, Num: api.Bits{W: 65}}, api.ErrForm},
		{syntax.Node{Kind: syntax.Num, Num: api.Bits{W: 64, V: 5, X: 3}, Signed: true}, api.OK},
		{syntax.Node{Kind: syntax.Now, Signed: true}, api.ErrForm},
		{syntax.Node{Kind: syntax.Now, Num: api.Bits{W: 1}}, api.ErrForm},
		{syntax.Node{Kind: syntax.Now, Num: api.Bits{V: 1}}, api.ErrForm},
		{syntax.Node{Kind: syntax.Now, Num: api.Bits{X: 1}}, api.ErrForm},
		{syntax.Node{Kind: syntax.Now, Text: "x"}, api.ErrForm},
		{syntax.Node{Kind: syntax.Now, Text: strings.Repeat("x", 201)}, api.ErrForm},
		{syntax.Node{Kind: syntax.Name, Name: "a", Signed: true}, api.ErrForm},
	} {
		if e := syntax.CheckExpr(x.n); e != x.want {
			t.Error(i, e)
		}
	}
	wire := func(n syntax.Node) syntax.Node {
		return with(syntax.Wire, n, named(syntax.Decl, "w", missing(), missing()))
	}
	checkBody(t, api.OK, wire(syntax.Node{Kind: syntax.Type, Signed: true, Kids: []syntax.Node{missing()}}))
	checkBody(t, api.ErrForm, wire(syntax.Node{Kind: syntax.TypeName, Name: "t", Signed: true}))
	checkBody(t, api.ErrForm, wire(syntax.Node{Kind: syntax.Type, Num: api.Bits{W: 1}, Kids: []syntax.Node{missing()}}))
}

func TestTexts(t *testing.T) {
	for text, want := range map[string]api.Errno{
		"": api.OK, " ": api.OK, "~": api.OK, `a"\b`: api.OK, strings.Repeat("~", 200): api.OK,
		strings.Repeat("~", 201): api.ErrLarge, strings.Repeat("\n", 201): api.ErrLarge, strings.Repeat("\n", 200): api.ErrForm,
		"\x1f": api.ErrForm, "\x7f": api.ErrForm, "a\tb": api.ErrForm, "é": api.ErrForm, "\xff": api.ErrForm, "ab\x00": api.ErrForm,
	} {
		for _, kind := range []int{syntax.Show, syntax.Write, syntax.Strobe, syntax.Monitor} {
			checkStatement(t, syntax.Node{Kind: kind, Text: text}, want)
			checkStatement(t, syntax.Node{Kind: kind, Text: text, Kids: []syntax.Node{num(), ref("a")}}, want)
		}
		checkStatement(t, syntax.Node{Kind: syntax.Assert, Text: text, Kids: []syntax.Node{num()}}, want)
	}
	// The text is looked at after the other fields, and before the kids.
	checkStatement(t, syntax.Node{Kind: syntax.Show, Text: strings.Repeat("~", 201), Signed: true}, api.ErrForm)
	checkStatement(t, syntax.Node{Kind: syntax.Assert, Text: strings.Repeat("~", 201)}, api.ErrLarge)
}

func TestMissing(t *testing.T) {
	branch := func(n syntax.Node) syntax.Node { return with(syntax.If, num(), set(), n) }
	for _, n := range []syntax.Node{{Name: "a"}, {Text: "a"}, {Signed: true}, {Num: api.Bits{W: 1}}, {Kids: []syntax.Node{{}}}} {
		checkStatement(t, branch(n), api.ErrForm)
	}
	checkStatement(t, branch(syntax.Node{Line: -1, Col: -7, Kids: []syntax.Node{}}), api.OK)
	// It is looked at when it is its turn.
	n := with(syntax.If, ref("a b"), set(), syntax.Node{Name: "a"})
	checkStatement(t, n, api.ErrName)
	n = with(syntax.Put, ref("a"), ref("a b"), syntax.Node{Name: "a"})
	checkStatement(t, n, api.ErrName)
	prop := with(syntax.SeqThen, with(syntax.SeqHold, num()), num(), syntax.Node{Name: "a"}, with(syntax.SeqHold, ref("a b")))
	checkBody(t, api.ErrForm, named(syntax.PropSame, "p", ref("clk"), prop, prop))
}

func TestTargets(t *testing.T) {
	part := with(syntax.Part, ref("a"), num(), num())
	for _, x := range []struct {
		n      syntax.Node
		target api.Errno
		expr   api.Errno
	}{
		{ref("a"), api.OK, api.OK},
		{num(), api.ErrType, api.OK},
		{named(syntax.Call, "f"), api.ErrType, api.OK},
		{named(syntax.Select, "f", ref("a")), api.OK, api.OK},
		{with(syntax.Index, ref("a"), num()), api.OK, api.OK},
		{with(syntax.Slice, ref("a"), num(), num()), api.OK, api.OK},
		{with(syntax.Index, named(syntax.Select, "f", part), named(syntax.Call, "f")), api.OK, api.OK},
		{named(syntax.Select, "f", num()), api.ErrType, api.ErrType},
		{with(syntax.Index, num(), num()), api.ErrType, api.ErrType},
		{with(syntax.Slice, with(syntax.Add, num(), num()), num(), num()), api.ErrType, api.ErrType},
		{with(syntax.Part, named(syntax.Call, "f"), num(), num()), api.ErrType, api.ErrType},
		{with(syntax.Cat, ref("a"), part), api.OK, api.OK},
		{with(syntax.Cat, ref("a"), num()), api.ErrType, api.OK},
		{with(syntax.Cat, with(syntax.Cat, ref("a"), num())), api.ErrType, api.OK},
		{with(syntax.Cat, with(syntax.Cat, ref("a")), ref("b")), api.OK, api.OK},
		{with(syntax.Cat, with(syntax.Index, ref("a"), with(syntax.Cat, num()))), api.OK, api.OK},
	} {
		checkExpr(t, x.n, x.expr)
		checkBody(t, x.target, with(syntax.Assign, x.n, num()))
		checkBody(t, x.expr, with(syntax.Assign, ref("a"), x.n))
		checkBody(t, x.target, with(syntax.Seq, with(syntax.Edges, with(syntax.EdgeRise, x.n)), set()))
	}
}

// A Cat of which a part is selected is ErrType before anything else about it, but after its parent.
func TestSelectedCat(t *testing.T) {
	cat := with(syntax.Cat, ref("a"))
	for _, kind := range []int{syntax.Select, syntax.Index, syntax.Slice, syntax.Part} {
		n := with(kind, cat, num(), num())
		switch kind {
		case syntax.Select:
			n.Kids, n.Name = n.Kids[:1], "f"
		case syntax.Index:
			n.Kids = n.Kids[:2]
		}
		checkExpr(t, n, api.ErrType)
		n.Kids[0] = syntax.Node{Kind: syntax.Cat, Line: -1}
		checkExpr(t, n, api.ErrType)
		n.Kids[0] = syntax.Node{Kind: syntax.Name, Name: "a", Line: -1}
		checkExpr(t, n, api.ErrRange)
		n.Kids[0] = cat
		n.Text = "x"
		checkExpr(t, n, api.ErrForm)
	}
	checkExpr(t, with(syntax.Index, cat, with(-1)), api.ErrType)
	checkExpr(t, with(syntax.Index, ref("a"), cat), api.OK)
	checkExpr(t, with(syntax.Add, with(syntax.Name), with(syntax.Index, cat, num())), api.ErrForm)
}

func TestOrderOfNodes(t *testing.T) {
	bad := ref("a b")
	checkExpr(t, with(syntax.Add, with(-1), bad), api.ErrRange)
	checkExpr(t, with(syntax.Add, bad, with(-1)), api.ErrName)
	checkExpr(t, with(syntax.Add, with(syntax.Not, bad), with(-1)), api.ErrName)
	checkExpr(t, with(syntax.Add, with(syntax.Not), bad), api.ErrForm)
	checkExpr(t, with(syntax.Add, bad), api.ErrForm)
	checkExpr(t, with(syntax.Not, with(syntax.Not, with(syntax.Not, set()))), api.ErrType)
}

func TestFiles(t *testing.T) {
	size := with(syntax.Range, num(), num())
	kind := with(syntax.Type, size)
	item := named(syntax.Const, "c", num())
	for i, x := range []struct {
		want  api.Errno
		items []syntax.Node
	}{
		{api.OK, nil},
		{api.OK, []syntax.Node{item, item}},
		{api.OK, []syntax.Node{named(syntax.Enum, "e", size, named(syntax.EnumItem, "a", missing()), named(syntax.EnumItem, "b", num()))}},
		{api.ErrForm, []syntax.Node{named(syntax.Enum, "e", missing(), named(syntax.EnumItem, "a", missing()))}},
		{api.ErrForm, []syntax.Node{named(syntax.Enum, "e", size)}},
		{api.OK, []syntax.Node{named(syntax.Struct, "s", named(syntax.Field, "f", kind), named(syntax.Field, "g", named(syntax.TypeName, "t")))}},
		{api.ErrType, []syntax.Node{named(syntax.Struct, "s", named(syntax.Field, "f", size))}},
		{api.OK, []syntax.Node{named(syntax.Interface, "i", with(syntax.Params, named(syntax.Param, "p", num())), with(syntax.Inside))}},
		{api.ErrForm, []syntax.Node{named(syntax.Interface, "i", with(syntax.Params), with(syntax.Inside, item))}},
		{api.ErrType, []syntax.Node{named(syntax.Interface, "i", with(syntax.Params), with(syntax.Body))}},
		{api.ErrForm, []syntax.Node{with(syntax.Module, with(syntax.Params), with(syntax.Ports), with(syntax.Body))}},
		{api.ErrForm, []syntax.Node{item, num()}},
		{api.ErrForm, []syntax.Node{item, missing()}},
		{api.ErrForm, []syntax.Node{missing()}},
		{api.ErrForm, []syntax.Node{with(syntax.Whole)}},
		{api.ErrForm, []syntax.Node{with(-1)}},
		{api.ErrForm, []syntax.Node{named(syntax.Const, "a b", num()), set()}},
		{api.ErrName, []syntax.Node{named(syntax.Const, "a b", num()), item}},
		{api.ErrRange, []syntax.Node{{Kind: syntax.Const, Name: "c", Col: -1}}},
	} {
		if e := syntax.Check(syntax.File{Items: x.items}); e != x.want {
			t.Error(i, e)
		}
	}
	// The origins of lines are not looked at.
	f := file()
	f.Lines = []prep.Origin{{File: "", Line: -1}}
	if e := syntax.Check(f); e != api.OK {
		t.Error(e)
	}
}

func TestDangling(t *testing.T) {
	one := with(syntax.If, num(), set(), missing())
	two := with(syntax.If, num(), set(), set())
	loop := func(n syntax.Node) []syntax.Node {
		return []syntax.Node{
			with(syntax.While, num(), n), with(syntax.Repeat, num(), n),
			named(syntax.ForUp, "i", num(), num(), n), named(syntax.ForDown, "i", num(), num(), n),
			with(syntax.If, num(), set(), n),
		}
	}
	first := func(n syntax.Node, want api.Errno) {
		t.Helper()
		checkStatement(t, with(syntax.If, num(), n, set()), want)
		checkStatement(t, with(syntax.If, num(), n, missing()), api.OK)
		checkStatement(t, with(syntax.If, num(), set(), n), api.OK)
	}
	first(set(), api.OK)
	first(one, api.ErrForm)
	first(two, api.OK)
	first(with(syntax.Block, one), api.OK)
	for _, n := range loop(one) {
		first(n, api.ErrForm)
		for _, m := range loop(n) {
			first(m, api.ErrForm)
		}
		first(with(syntax.Case, num(), with(syntax.CaseItem, n)), api.OK)
	}
	for _, n := range loop(two) {
		first(n, api.OK)
	}
	for _, n := range loop(with(syntax.Block, one)) {
		first(n, api.OK)
	}
}

// Nothing but the kinds and the numbers of kids decides whether a statement dangles.
func TestDanglingFirst(t *testing.T) {
	both := func(n, last syntax.Node) syntax.Node { return with(syntax.If, num(), n, last) }
	bad := with(-1)
	end := with(syntax.If, bad, bad, syntax.Node{Name: "a"})
	checkStatement(t, both(end, set()), api.ErrForm)
	checkStatement(t, both(with(syntax.If, bad, bad, bad), set()), api.ErrRange)
	checkStatement(t, both(with(syntax.While, bad, end), bad), api.ErrForm)
	checkStatement(t, both(with(syntax.ForUp, bad, bad, end), bad), api.ErrForm)
	checkStatement(t, both(end, missing()), api.ErrRange)
	// Those with another number of kids do not dangle: their own turn comes before that of the kid behind them.
	for _, n := range []syntax.Node{
		with(syntax.If, num(), missing()), with(syntax.If, num(), set(), set(), missing()), with(syntax.While, end),
		with(syntax.Repeat, num(), num(), end), with(syntax.ForUp, num(), end), with(syntax.ForDown, num(), num(), num(), end),
	} {
		checkStatement(t, both(n, bad), api.ErrForm)
		n.Line = -1
		checkStatement(t, both(n, set()), api.ErrRange)
	}
	// The condition is looked at after the If.
	checkStatement(t, with(syntax.If, bad, end, set()), api.ErrForm)
}

// Limits of trees.

// chain is a tree of n levels.
func chain(n int) syntax.Node {
	tree := num()
	for range n - 1 {
		tree = with(syntax.Not, tree)
	}
	return tree
}

func TestDepth(t *testing.T) {
	checkExpr(t, chain(60), api.OK)
	checkExpr(t, chain(61), api.ErrLarge)
	checkExpr(t, chain(1000), api.ErrLarge)
	checkExpr(t, with(syntax.Add, num(), chain(59)), api.OK)
	checkExpr(t, with(syntax.Add, chain(60), num()), api.ErrLarge)
	checkExpr(t, with(-1, chain(60)), api.ErrLarge)
	// Whole, Module, Body and Assign are four levels.
	checkBody(t, api.OK, with(syntax.Assign, ref("a"), chain(56)))
	checkBody(t, api.ErrLarge, with(syntax.Assign, ref("a"), chain(57)))
	// A None is a node like others.
	branch := with(syntax.If, num(), with(syntax.Nop), missing())
	for range 54 {
		branch = with(syntax.Block, branch)
	}
	checkStatement(t, branch, api.OK)
	checkStatement(t, with(syntax.Block, branch), api.ErrLarge)
}

func TestNodes(t *testing.T) {
	list := func(n int) []syntax.Node { return slices.Repeat([]syntax.Node{num()}, n) }
	checkExpr(t, with(syntax.Cat, list(3999)...), api.OK)
	checkExpr(t, with(syntax.Cat, list(4000)...), api.ErrLarge)
	checkExpr(t, with(-1, list(4000)...), api.ErrLarge)
	checkExpr(t, with(syntax.Cat, list(99_999)...), api.ErrLarge)
	items := func(n int) syntax.File {
		return syntax.File{Items: slices.Repeat([]syntax.Node{named(syntax.TypeName, "t")}, n)}
	}
	if e := syntax.Check(items(3999)); e != api.ErrForm {
		t.Error(e)
	}
	if e := syntax.Check(items(4000)); e != api.ErrLarge {
		t.Error(e)
	}
	// If, its condition, its branch and None are four nodes; Whole, Module, Params, Ports, Body, Initial and Block are seven.
	branches := slices.Repeat([]syntax.Node{with(syntax.If, num(), with(syntax.Nop), missing())}, 998)
	checkStatement(t, with(syntax.Block, append(branches, with(syntax.Nop))...), api.OK)
	checkStatement(t, with(syntax.Block, append(branches, with(syntax.Nop), with(syntax.Nop))...), api.ErrLarge)
}

// P5.3: trees that are the same, visits, and measures.

func TestSame(t *testing.T) {
	a := with(syntax.Add, num(), named(syntax.Call, "f", ref("a"), ref("b")))
	for i, x := range []struct {
		change func(n *syntax.Node)
		want   bool
	}{
		{func(n *syntax.Node) {}, true},
		{func(n *syntax.Node) { n.Line = 7 }, true},
		{func(n *syntax.Node) { n.Kids[1].Kids[1].Col = 7 }, true},
		{func(n *syntax.Node) { n.Kids[0].Kids = []syntax.Node{} }, true},
		{func(n *syntax.Node) { n.Kind = syntax.Sub }, false},
		{func(n *syntax.Node) { n.Name = "a" }, false},
		{func(n *syntax.Node) { n.Text = "a" }, false},
		{func(n *syntax.Node) { n.Signed = true }, false},
		{func(n *syntax.Node) { n.Num.W = 1 }, false},
		{func(n *syntax.Node) { n.Kids[0].Num.V = 0 }, false},
		{func(n *syntax.Node) { n.Kids[0].Num.X = 1 }, false},
		{func(n *syntax.Node) { n.Kids[1].Kids[1].Name = "c" }, false},
		{func(n *syntax.Node) { n.Kids[1].Kids = n.Kids[1].Kids[:1] }, false},
		{func(n *syntax.Node) { n.Kids[1].Kids[1].Kids = []syntax.Node{{}} }, false},
		{func(n *syntax.Node) { n.Kids[0], n.Kids[1] = n.Kids[1], n.Kids[0] }, false},
	} {
		b := copyOf(a)
		x.change(&b)
		one, other := syntax.File{Items: []syntax.Node{a}}, syntax.File{Items: []syntax.Node{b}, Lines: []prep.Origin{{File: "f", Line: 1}}}
		if syntax.Same(a, b) != x.want || syntax.Same(b, a) != x.want || syntax.SameFile(one, other) != x.want || syntax.SameFile(other, one) != x.want {
			t.Error(i)
		}
	}
	if !syntax.SameFile(syntax.File{}, syntax.File{Items: []syntax.Node{}}) || syntax.SameFile(file(), syntax.File{}) || syntax.SameFile(syntax.File{}, file()) {
		t.Error("files")
	}
	if syntax.SameFile(syntax.File{Items: []syntax.Node{a, num()}}, syntax.File{Items: []syntax.Node{num(), a}}) {
		t.Error("order")
	}
}

func TestWalk(t *testing.T) {
	tree := with(syntax.If, with(syntax.Add, num(), with(syntax.Mul, ref("a"), ref("b"))), set(), missing())
	for _, x := range []struct {
		stop int
		want []int
	}{
		{-1, []int{syntax.If, syntax.Add, syntax.Num, syntax.Mul, syntax.Name, syntax.Name, syntax.Set, syntax.Name, syntax.Num, syntax.None, syntax.None}},
		{syntax.Add, []int{syntax.If, syntax.Add, syntax.Set, syntax.Name, syntax.Num, syntax.None, syntax.None}},
		{syntax.Mul, []int{syntax.If, syntax.Add, syntax.Num, syntax.Mul, syntax.Set, syntax.Name, syntax.Num, syntax.None, syntax.None}},
		{syntax.If, []int{syntax.If}},
	} {
		var got []int
		syntax.Walk(tree, func(n syntax.Node) bool {
			got = append(got, n.Kind)
			return n.Kind != x.stop
		})
		if !slices.Equal(got, x.want) {
			t.Errorf("%d: %v instead of %v", x.stop, got, x.want)
		}
	}
	var got []string
	syntax.Walk(tree, func(n syntax.Node) bool {
		got = append(got, texts(n))
		return n.Kind == syntax.If
	})
	if want := []string{texts(tree), texts(tree.Kids[0]), texts(tree.Kids[1]), texts(missing())}; !slices.Equal(got, want) {
		t.Error(got)
	}
	syntax.Walk(tree, nil)
}

func TestMeasure(t *testing.T) {
	for i, x := range []struct {
		n            syntax.Node
		count, depth int
	}{
		{missing(), 1, 1},
		{num(), 1, 1},
		{set(), 4, 2},
		{with(syntax.Add, num(), with(syntax.Mul, ref("a"), ref("b"))), 5, 3},
		{with(syntax.Add, with(syntax.Mul, ref("a"), ref("b")), num()), 5, 3},
		{with(-1, with(syntax.None, missing())), 3, 3},
		{chain(1000), 1000, 1000},
	} {
		if n, d := syntax.Measure(x.n); n != x.count || d != x.depth {
			t.Error(i, n, d)
		}
	}
}
