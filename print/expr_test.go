package print_test

import (
	"strings"
	"testing"

	"maskwright/api"
	"maskwright/parse"
	"maskwright/print"
	"maskwright/syntax"
)

// P7.2

// node returns a node with kids.
func node(kind int, kids ...syntax.Node) syntax.Node {
	return syntax.Node{Kind: kind, Kids: kids}
}

// named returns a node with a name and kids.
func named(kind int, name string, kids ...syntax.Node) syntax.Node {
	return syntax.Node{Kind: kind, Name: name, Kids: kids}
}

// num returns a number.
func num(w int, v, x uint64, signed bool) syntax.Node {
	return syntax.Node{Kind: syntax.Num, Num: api.Bits{W: w, V: v, X: x}, Signed: signed}
}

// name returns the expression of a name.
func name(s string) syntax.Node {
	return named(syntax.Name, s)
}

// expect tests the text of an expression.
func expect(t *testing.T, n syntax.Node, want string) {
	t.Helper()
	if s, e := print.Expr(n); e != api.OK || s != want {
		t.Errorf("%v\n%s\ninstead of\n%s", e, s, want)
	}
}

// The example of the chapter.
func TestExample(t *testing.T) {
	inner := node(syntax.Sub, name("b"), node(syntax.Sub, name("c"), name("d")))
	expect(t, node(syntax.Mul, name("a"), inner), "a * (b - (c - d))")
}

func TestNumbers(t *testing.T) {
	for _, x := range []struct {
		n    syntax.Node
		want string
	}{
		{num(32, 0, 0, true), "0"},
		{num(32, 7, 0, true), "7"},
		{num(32, 1<<31-1, 0, true), "2147483647"},
		{num(32, 1<<31, 0, true), "32'sb1" + strings.Repeat("0", 31)},
		{num(32, 1<<32-1, 0, true), "32'sb" + strings.Repeat("1", 32)},
		{num(32, 7, 0, false), "32'b" + strings.Repeat("0", 29) + "111"},
		{num(32, 0, 1, true), "32'sb" + strings.Repeat("0", 31) + "z"},
		{num(32, 1, 1, false), "32'b" + strings.Repeat("0", 31) + "x"},
		{num(32, 0, 1<<31, true), "32'sbz" + strings.Repeat("0", 31)},
		{num(31, 7, 0, true), "31'sb" + strings.Repeat("0", 28) + "111"},
		{num(33, 7, 0, true), "33'sb" + strings.Repeat("0", 30) + "111"},
		{num(1, 0, 0, false), "1'b0"},
		{num(1, 1, 1, true), "1'sbx"},
		{num(4, 0b0110, 0b0011, false), "4'b01xz"},
		{num(64, 1<<63, 0, true), "64'sb1" + strings.Repeat("0", 63)},
		{num(64, 1<<64-1, 1<<64-1, false), "64'b" + strings.Repeat("x", 64)},
	} {
		expect(t, x.n, x.want)
	}
}

func TestOperands(t *testing.T) {
	a, b, sum := name("a"), name("b"), node(syntax.Add, name("x"), name("y"))
	choice := node(syntax.Cond, name("x"), name("y"), name("z"))
	for _, x := range []struct {
		n    syntax.Node
		want string
	}{
		{a, "a"},
		{name("if"), `\if `},
		{node(syntax.Now), "now"},
		{named(syntax.Select, "f", a), "a.f"},
		{named(syntax.Select, "in", name("out")), `\out .\in `},
		{node(syntax.Index, a, sum), "a[x + y]"},
		{node(syntax.Index, name("1"), choice), `\1 [x ? y : z]`},
		{node(syntax.Slice, a, sum, b), "a[x + y:b]"},
		{node(syntax.Slice, a, choice, choice), "a[x ? y : z:x ? y : z]"},
		{node(syntax.Part, a, sum, choice), "a[x + y +: x ? y : z]"},
		{node(syntax.Part, node(syntax.Slice, node(syntax.Index, named(syntax.Select, "f", a), b), b, b), b, b), "a.f[b][b:b][b +: b]"},
		{named(syntax.Call, "f"), "f()"},
		{named(syntax.Call, "f", a), "f(a)"},
		{named(syntax.Call, "to", choice, sum, b), `\to (x ? y : z, x + y, b)`},
		{node(syntax.Cat, a), "cat(a)"},
		{node(syntax.Cat, sum, node(syntax.Cat, choice, b)), "cat(x + y, cat(x ? y : z, b))"},
		{node(syntax.Rep, sum, choice), "rep(x + y, x ? y : z)"},
		{node(syntax.Size, choice, sum), "size(x ? y : z, x + y)"},
		{node(syntax.Signed, choice), "signed(x ? y : z)"},
		{node(syntax.Unsigned, sum), "unsigned(x + y)"},
		{node(syntax.Width, sum), "width(x + y)"},
		{node(syntax.Log, choice), "log(x ? y : z)"},
	} {
		expect(t, x.n, x.want)
	}
}

func TestOperations(t *testing.T) {
	a, b := name("a"), name("b")
	for kind, want := range map[int]string{
		syntax.LOr: "a || b", syntax.LAnd: "a && b", syntax.Or: "a | b", syntax.Xor: "a ^ b", syntax.And: "a & b",
		syntax.Eq: "a == b", syntax.Ne: "a != b", syntax.CaseEq: "a === b", syntax.CaseNe: "a !== b",
		syntax.Lt: "a < b", syntax.Le: "a <= b", syntax.Gt: "a > b", syntax.Ge: "a >= b",
		syntax.Shl: "a << b", syntax.Shr: "a >> b", syntax.Sar: "a >>> b", syntax.Add: "a + b", syntax.Sub: "a - b",
		syntax.Mul: "a * b", syntax.Div: "a / b", syntax.Mod: "a % b",
	} {
		expect(t, node(kind, a, b), want)
	}
	for kind, want := range map[int]string{
		syntax.Plus: "+a", syntax.Neg: "-a", syntax.LNot: "!a", syntax.Not: "~a", syntax.RedAnd: "&a", syntax.RedOr: "|a", syntax.RedXor: "^a",
	} {
		expect(t, node(kind, a), want)
	}
	expect(t, node(syntax.Cond, a, b, name("c")), "a ? b : c")
}

// Two signs of one operand stand together, but for those that are another sign then.
func TestSignsOfSigns(t *testing.T) {
	signs := map[int]string{syntax.Plus: "+", syntax.Neg: "-", syntax.LNot: "!", syntax.Not: "~", syntax.RedAnd: "&", syntax.RedOr: "|", syntax.RedXor: "^"}
	for first, x := range signs {
		for second, y := range signs {
			want := x + y + "a"
			if want == "&&a" || want == "||a" {
				want = x + " " + y + "a"
			}
			expect(t, node(first, node(second, name("a"))), want)
		}
	}
	and := func(n syntax.Node) syntax.Node { return node(syntax.RedAnd, n) }
	expect(t, and(and(and(name("a")))), "& & &a")
	expect(t, and(node(syntax.And, and(name("a")), and(name("b")))), "&(&a & &b)")
	expect(t, node(syntax.And, name("a"), and(and(name("b")))), "a & & &b")
	expect(t, node(syntax.LAnd, and(name("a")), and(name("b"))), "&a && &b")
	expect(t, node(syntax.Or, node(syntax.RedOr, name("a")), node(syntax.RedOr, name("|"))), `|a | |\| `)
}

// expressions are all kinds of expressions, of which each has as many kids as it needs.
func expressions() []syntax.Node {
	var all []syntax.Node
	for _, r := range rows {
		if !strings.HasPrefix(r.classes, "E") {
			continue
		}
		n := syntax.Node{Kind: r.kind}
		if r.fields == "N" {
			n.Name = "n"
		}
		if r.fields == "V" {
			n.Num.W = 1
		}
		for range strings.Count(r.pattern, "E") {
			n.Kids = append(n.Kids, name("a"))
		}
		all = append(all, n)
	}
	return all
}

// packed returns a text without blanks.
func packed(s string) string {
	return strings.ReplaceAll(s, " ", "")
}

// A kid is in brackets if and only if it is read as another tree without them.
func TestBracketsThatAreNeeded(t *testing.T) {
	seen := map[bool]int{}
	for _, outer := range expressions() {
		for i := range outer.Kids {
			for _, inner := range expressions() {
				n, hole := copyOf(outer), copyOf(outer)
				n.Kids[i], hole.Kids[i] = inner, name("hole")
				if syntax.CheckExpr(n) != api.OK {
					continue // a part of what is no target
				}
				around, _ := print.Expr(hole)
				own, _ := print.Expr(inner)
				want := strings.Replace(around, "hole", " "+own, 1)
				m, e := parse.Expr(want)
				bare := e == api.OK && syntax.Same(m, n)
				if !bare {
					want = strings.Replace(around, "hole", "("+own+")", 1)
				}
				if s, _ := print.Expr(n); packed(s) != packed(want) {
					t.Errorf("%s instead of %s", s, want)
				}
				seen[bare]++
			}
		}
	}
	if seen[true] < 1000 || seen[false] < 500 {
		t.Error(seen)
	}
}

// Errors: that of CheckExpr, and then that of a text that is too long.
func TestErrorsOfExpr(t *testing.T) {
	long := strings.Repeat("n", 40)
	wide := node(syntax.Cat)
	for range 3000 {
		wide.Kids = append(wide.Kids, name(long))
	}
	half := copyOf(wide)
	half.Kids[2999] = name("a b")
	many := copyOf(wide)
	for range 1000 {
		many.Kids = append(many.Kids, name("a"))
	}
	for i, x := range []struct {
		n    syntax.Node
		want api.Errno
	}{
		{syntax.Node{}, api.ErrType},
		{node(syntax.Nop), api.ErrType},
		{node(syntax.Now + 1), api.ErrRange},
		{name(""), api.ErrForm},
		{name("a b"), api.ErrName},
		{node(syntax.Add, name("a")), api.ErrForm},
		{named(syntax.Select, "f", node(syntax.Add, name("a"), name("b"))), api.ErrType},
		{syntax.Node{Kind: syntax.Num, Num: api.Bits{W: 65}}, api.ErrForm},
		{wide, api.ErrLarge},
		{half, api.ErrName},
		{many, api.ErrLarge},
	} {
		if s, e := print.Expr(x.n); e != x.want || s != "" {
			t.Errorf("%d: %.50s %v instead of %v", i, s, e, x.want)
		}
	}
}

// The limits: the bytes of a text, and the nodes and the depth of a tree.
func TestLimitsOfExpr(t *testing.T) {
	n := node(syntax.Cat)
	for range 380 {
		n.Kids = append(n.Kids, name(strings.Repeat("n", 40)))
	}
	n.Kids = append(n.Kids, name("a"), name("b")) // 4 + 380 * 42 + 1 + 2 + 1 + 1
	want := 15969
	s, e := print.Expr(n)
	if e != api.OK || len(s) != want {
		t.Fatal(len(s), e)
	}
	n.Kids[380].Name = strings.Repeat("a", 32)
	if s, e = print.Expr(n); e != api.OK || len(s) != api.MaxText {
		t.Error(len(s), e)
	}
	m, e := parse.Expr(s)
	if e != api.OK || !syntax.Same(m, n) {
		t.Error(e)
	}
	n.Kids[380].Name = strings.Repeat("a", 33)
	if s, e = print.Expr(n); e != api.ErrLarge || s != "" {
		t.Error(len(s), e)
	}
	flat := node(syntax.Cat)
	for range syntax.MaxNodes - 1 {
		flat.Kids = append(flat.Kids, name("a"))
	}
	expect(t, flat, "cat("+strings.Repeat("a, ", syntax.MaxNodes-2)+"a)")
	deep := name("a")
	for range syntax.MaxDepth - 1 {
		deep = node(syntax.Neg, deep)
	}
	expect(t, deep, strings.Repeat("-", syntax.MaxDepth-1)+"a")
	if s, e = print.Expr(node(syntax.Neg, deep)); e != api.ErrLarge || s != "" {
		t.Error(s, e)
	}
}
