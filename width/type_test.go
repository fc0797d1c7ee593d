package width_test

import (
	"strings"
	"testing"

	"maskwright/api"
	"maskwright/design"
	S "maskwright/syntax"
	"maskwright/width"
)

// P10.1, P10.6: the own type of each kind of expression; its value has this width.
func TestTypes(t *testing.T) {
	for s, want := range map[string]width.Type{
		// numbers, the time, sizes
		"7": {W: 32, Signed: true}, "4'd1": {W: 4}, "4'sd1": {W: 4, Signed: true}, "now": {W: 64},
		"width(a)": {W: 32, Signed: true}, "log(4'd9)": {W: 32, Signed: true},
		// places
		"a": {W: 4}, "b": {W: 8, Signed: true}, "k": {W: 32, Signed: true}, "u": {W: 4}, "s": {W: 5}, "g.x": {W: 1}, "g.k": {W: 2}, "g.m[7]": {W: 2, Signed: true},
		"m[2]": {W: 4}, "n[a]": {W: 8}, "s.hi": {W: 3}, "s.lo": {W: 2, Signed: true}, "n[1].p": {W: 5}, "n[a].p.lo": {W: 2, Signed: true}, "y.z": {W: 3, Signed: true},
		"b[3]": {W: 1}, "b[a]": {W: 1}, "b[6:2]": {W: 5}, "b[7:0]": {W: 8}, "b[a +: 3]": {W: 3}, "b[1 +: 3]": {W: 3}, "k[2]": {W: 1}, "v[3:0]": {W: 4}, "s.lo[1:0]": {W: 2},
		// operations with the types of operands
		"+b": {W: 8, Signed: true}, "-a": {W: 4}, "~b": {W: 8, Signed: true}, "-s.lo": {W: 2, Signed: true},
		"a * b": {W: 8}, "b / a": {W: 8}, "b % b": {W: 8, Signed: true}, "a + b": {W: 8}, "b - 1": {W: 32, Signed: true}, "b & c": {W: 8, Signed: true}, "a ^ 2'd1": {W: 4}, "c | c": {W: 1, Signed: true},
		"a ? b : c": {W: 8, Signed: true}, "b ? b : a": {W: 8}, "now ? a : g.x": {W: 4},
		"a << 20": {W: 4}, "b >> t": {W: 8, Signed: true}, "b >>> a": {W: 8, Signed: true}, "a >>> b": {W: 4}, "c << a": {W: 1, Signed: true},
		// one bit
		"!b": {W: 1}, "&b": {W: 1}, "|b": {W: 1}, "^b": {W: 1}, "b && b": {W: 1}, "b || b": {W: 1},
		"b < b": {W: 1}, "b <= b": {W: 1}, "b > b": {W: 1}, "b >= b": {W: 1}, "b == b": {W: 1}, "b != b": {W: 1}, "b === b": {W: 1}, "b !== b": {W: 1},
		// the others
		"signed(a)": {W: 4, Signed: true}, "signed(b)": {W: 8, Signed: true}, "unsigned(b)": {W: 8}, "unsigned(a)": {W: 4},
		"size(9, b)": {W: 9, Signed: true}, "size(2, a)": {W: 2}, "size(k, a)": {W: 3}, "size(64, c)": {W: 64, Signed: true}, "size(1, t)": {W: 1},
		"cat(b)": {W: 8}, "cat(a, b, c)": {W: 13}, "cat(t)": {W: 64}, "cat(b, b, b, b, b, b, b, b)": {W: 64},
		"rep(1, b)": {W: 8}, "rep(k, a)": {W: 12}, "rep(16, a)": {W: 64}, "rep(64, c)": {W: 64},
		"f(a)": {W: 8, Signed: true}, "h()": {W: 3}, "two(a, b)": {W: 5, Signed: true},
	} {
		e, x, f := width.Own(node(t, s), env())
		if f != (width.Fault{}) || x.W != want.W || x.Signed != want.Signed || x.Lsb != 0 || len(x.Fields) > 0 || e.W != want.W {
			t.Errorf("%s: %+v, width %d, fault %+v", s, x, e.W, f)
		}
		if e := design.CheckExpr(designOf(env()), e); e != api.OK {
			t.Errorf("%s: error %d of its value", s, e)
		}
	}
}

// faulty checks that all functions that look at an expression return a fault, and nothing else.
func faulty(t *testing.T, what string, n S.Node, want width.Fault) {
	t.Helper()
	e, x, f := width.Own(n, env())
	if f != want || !none(e) || x.W != 0 || x.Lsb != 0 || x.Signed || x.Fields != nil {
		t.Errorf("%s: Own: %+v %+v, fault %+v, not %+v", what, e, x, f, want)
	}
	e, f = width.Assigned(n, env(), 8)
	if f != want || !none(e) {
		t.Errorf("%s: Assigned: %+v, fault %+v, not %+v", what, e, f, want)
	}
	l, f := width.Together([]S.Node{node(t, "7"), n, node(t, "zz")}, env())
	if f != want || len(l) > 0 {
		t.Errorf("%s: Together: %+v, fault %+v, not %+v", what, l, f, want)
	}
	b, signed, f := width.Number(n, env())
	if f != want || b != (api.Bits{}) || signed {
		t.Errorf("%s: Number: %+v, %v, fault %+v, not %+v", what, b, signed, f, want)
	}
	v, f := width.Int(n, env(), -9, 9)
	if f != want || v != 0 {
		t.Errorf("%s: Int: %d, fault %+v, not %+v", what, v, f, want)
	}
}

// wrong is a source with a fault, which has an @ before the place of the fault.
type wrong struct {
	source string
	code   api.Errno
	text   string
}

// node returns the tree of the source, and its fault.
func (x wrong) node(t *testing.T) (S.Node, width.Fault) {
	t.Helper()
	at := strings.Index(x.source, "@")
	if at < 0 {
		t.Fatalf("%s: where?", x.source)
	}
	return node(t, x.source[:at]+x.source[at+1:]), width.Fault{Line: 1, Col: at + 1, Code: x.code, Text: x.text}
}

// P10.1: each fault of operations and calls, with its place.
func TestFaults(t *testing.T) {
	for _, x := range []wrong{
		{"a + @zz", api.ErrNone, "zz"}, {"@zz", api.ErrNone, "zz"},
		{"@m", api.ErrType, "m"}, {"a + @m", api.ErrType, "m"}, {"@g.m", api.ErrType, "g.m"}, {"width(@m)", api.ErrType, "m"},
		{"size(@0, a)", api.ErrRange, ""}, {"size(@65, a)", api.ErrRange, ""}, {"size(@-1, a)", api.ErrRange, ""}, {"size(@a, a)", api.ErrConst, ""}, {"size(@u, a)", api.ErrConst, ""}, {"size(@now, a)", api.ErrConst, ""}, {"size(@4'bx, a)", api.ErrConst, ""}, {"size(@64'hffffffffffffffff, a)", api.ErrRange, ""},
		{"rep(@0, a)", api.ErrRange, ""}, {"rep(@65, c)", api.ErrRange, ""}, {"rep(@v, c)", api.ErrRange, ""}, {"rep(@a, a)", api.ErrConst, ""}, {"rep(@1 / 0, a)", api.ErrConst, ""}, {"1 + @rep(17, a)", api.ErrLarge, ""}, {"@rep(2, size(33, a))", api.ErrLarge, ""}, {"@rep(64, t)", api.ErrLarge, ""},
		{"1 + @cat(t, c)", api.ErrLarge, ""}, {"@cat(b, b, b, b, b, b, b, b, c)", api.ErrLarge, ""},
		{"log(@a)", api.ErrConst, ""}, {"log(@u)", api.ErrConst, ""}, {"log(@now)", api.ErrConst, ""}, {"log(@1 / 0)", api.ErrConst, ""},
		{"1 + @zz(1)", api.ErrNone, "zz"}, {"1 + @a(1)", api.ErrType, "a"}, {"@k(1)", api.ErrType, "k"}, {"@g(1)", api.ErrType, "g"},
		{"1 + @f()", api.ErrForm, "f"}, {"@f(1, 2)", api.ErrForm, "f"}, {"@h(1)", api.ErrForm, "h"}, {"f(@zz)", api.ErrNone, "zz"}, {"two(a, @zz)", api.ErrNone, "zz"},
		{"rep(@spin(1001), a)", api.ErrLarge, ""}, {"b[@spin(1001)]", api.ErrLarge, ""}, {"log(@spin(1001))", api.ErrLarge, ""},
	} {
		n, want := x.node(t)
		faulty(t, x.source, n, want)
	}
}

// P10.1: of several faults, the first one: parts in order, each one before what is made of them.
func TestOrderOfFaults(t *testing.T) {
	for _, x := range []wrong{
		{"@zz + yy", api.ErrNone, "zz"}, {"@zz ? yy : xx", api.ErrNone, "zz"}, {"a ? @zz : yy", api.ErrNone, "zz"}, {"a ? b : @zz", api.ErrNone, "zz"}, {"(a + @zz) * yy", api.ErrNone, "zz"},
		// a first kid that is no constant, or too large, comes behind the faults of all kids
		{"rep(a, @zz)", api.ErrNone, "zz"}, {"rep(0, @zz)", api.ErrNone, "zz"}, {"size(a, @zz)", api.ErrNone, "zz"}, {"size(65, @zz)", api.ErrNone, "zz"}, {"rep(@zz, yy)", api.ErrNone, "zz"}, {"log(a + @zz)", api.ErrNone, "zz"},
		{"rep(@a, t)", api.ErrConst, ""}, {"rep(@a, t) + zz", api.ErrConst, ""}, {"log(@a) + zz", api.ErrConst, ""}, {"size(@0, log(k)) + zz", api.ErrRange, ""}, {"size(0, log(@a))", api.ErrConst, ""},
		{"cat(t, t, @zz)", api.ErrNone, "zz"}, {"@cat(t, t) + zz", api.ErrLarge, ""}, {"cat(t, @cat(t, t))", api.ErrLarge, ""}, {"rep(65, @rep(2, t))", api.ErrLarge, ""},
		// those of a call come before those of its arguments
		{"@zz(yy)", api.ErrNone, "zz"}, {"@a(yy)", api.ErrType, "a"}, {"@f(zz, yy)", api.ErrForm, "f"}, {"two(@zz, yy)", api.ErrNone, "zz"}, {"two(@m, zz)", api.ErrType, "m"}, {"f(log(@a)) + zz", api.ErrConst, ""},
	} {
		n, want := x.node(t)
		faulty(t, x.source, n, want)
	}
}

// P10.1: a fault is at the line and the column of its node.
func TestPlacesOfFaults(t *testing.T) {
	leaf := func(name string, line, col int) S.Node { return S.Node{Kind: S.Name, Name: name, Line: line, Col: col} }
	sum := func(a, b S.Node) S.Node { return S.Node{Kind: S.Add, Line: 1, Col: 1, Kids: []S.Node{a, b}} }
	faulty(t, "name", sum(leaf("a", 2, 3), leaf("zz", 4, 5)), width.Fault{Line: 4, Col: 5, Code: api.ErrNone, Text: "zz"})
	cat := S.Node{Kind: S.Cat, Line: 6, Col: 7, Kids: []S.Node{leaf("t", 8, 9), leaf("t", 10, 11)}}
	faulty(t, "cat", sum(leaf("a", 2, 3), cat), width.Fault{Line: 6, Col: 7, Code: api.ErrLarge})
	plus := S.Node{Kind: S.Plus, Line: 12, Col: 13, Kids: []S.Node{leaf("a", 14, 15)}}
	rep := S.Node{Kind: S.Rep, Line: 16, Col: 17, Kids: []S.Node{plus, leaf("a", 18, 19)}}
	faulty(t, "constant", sum(leaf("a", 2, 3), rep), width.Fault{Line: 12, Col: 13, Code: api.ErrConst})
	field := S.Node{Kind: S.Select, Name: "no", Line: 20, Col: 21, Kids: []S.Node{leaf("s", 22, 23)}}
	faulty(t, "field", field, width.Fault{Line: 20, Col: 21, Code: api.ErrNone, Text: "no"})
	slice := S.Node{Kind: S.Slice, Line: 24, Col: 25, Kids: []S.Node{leaf("m", 26, 27), leaf("k", 28, 29), leaf("k", 30, 31)}}
	faulty(t, "array", slice, width.Fault{Line: 24, Col: 25, Code: api.ErrType, Text: "m"})
}
