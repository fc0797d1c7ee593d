package fold_test

import (
	"strconv"
	"strings"
	"testing"

	"maskwright/api"
	"maskwright/fold"
	S "maskwright/syntax"
	"maskwright/width"
)

// P11.2: constants with names mean what their numbers mean where they stand.
func TestNames(t *testing.T) {
	for with, without := range map[string]string{
		"K": "8'd200", "K + K": "8'd200 + 8'd200", "K + 9'd0": "8'd200 + 9'd0", "(K + K) + 9'd0": "(8'd200 + 8'd200) + 9'd0", "T + 8'sd0": "6'sd59 + 8'sd0", "T + 8'd0": "6'sd59 + 8'd0", "T < 0": "6'sd59 < 0", "cat(T, U)": "cat(6'sd59, 4'b1x0z)", "-T": "-6'sd59", "T >>> 1": "6'sd59 >>> 1", "~g.k": "~3'd5",
		"K[g.k]": "K[5]", "K[g.k:P.hi - 3'd3]": "K[5:2]", "K[2 +: g.k]": "K[2 +: 5]", "rep(g.k, U)": "rep(5, 4'b1x0z)", "size(g.k, T)": "size(5, 6'sd59)", "log(K)": "log(8'd200)", "width(T)": "width(6'sd59)", "f(U)": "f(4'b1x0z)", "f(T)": "f(6'sd59)", "spin(K)": "spin(200)",
		"U === U": "4'b1x0z === U", "U == T": "4'b1x0z == 6'sd59", "U ? T : K": "4'b1x0z ? 6'sd59 : 8'd200", "1'bx ? T : K": "1'bx ? 6'sd59 : 8'd200", "K / (g.k - P.hi)": "8'd200 / (3'd5 - P.hi)", "P.lo * T": "2'sd2 * 6'sd59", "K[3:0] + 5'd1": "4'd8 + 5'd1", "T[4:2]": "3'b011",
	} {
		b, signed, e := fold.Value(node(t, with), env())
		c, same, f := fold.Value(node(t, without), env())
		if b != c || signed != same || e != api.OK || f != api.OK {
			t.Errorf("%s: %s, %v, error %d; %s: %s, %v, error %d", with, states(b), signed, e, without, states(c), same, f)
		}
	}
}

// P11.2: the value of a constant without names is that of a constant that was defined by it.
func TestDefinitions(t *testing.T) {
	for _, s := range []string{"8'd200 + 100", "-5", "signed(4'd9)", "4'd9 / 0", "cat(2'b1z, 3'd4)", "f(3)", "4'sd9 >>> 1", "log(100) * width(3'd0)", "64'd1 << 63"} {
		e := env()
		b, signed, err := fold.Value(node(t, s), e)
		e.Names["N"] = width.Thing{Kind: width.Const, Value: b, Type: width.Type{W: b.W, Signed: signed}}
		for _, form := range []string{"#", "unsigned(#)", "cat(#, 1'd1)", "!#", "# ? 1 : 0", "size(3, #)", "width(#)", "rep(1, #)", "f(unsigned(#))", "K << #"} {
			if strings.HasSuffix(form, "1)") && b.W == api.MaxWidth {
				continue
			}
			c, same, f := fold.Value(node(t, strings.ReplaceAll(form, "#", "N")), e)
			d, also, g := fold.Value(node(t, strings.ReplaceAll(form, "#", "("+s+")")), e)
			if c != d || same != also || err != api.OK || f != api.OK || g != api.OK {
				t.Errorf("%s of %s: %s, %v, error %d; with a name %s, %v, error %d", form, s, states(d), also, g, states(c), same, f)
			}
		}
	}
}

// naming gives parts of trees names, which it adds to its environment, and counts their kinds.
type naming struct {
	grower
	named map[int]int
}

// name returns a name for a constant with a value and a type.
func (g naming) name(n S.Node, b api.Bits, x width.Type) S.Node {
	g.named[n.Kind]++
	name := "c" + strconv.Itoa(len(g.env.Names))
	g.env.Names[name] = width.Thing{Kind: width.Const, Value: b, Type: x}
	return S.Node{Kind: S.Name, Name: name}
}

// numbers returns a tree in which some numbers have names.
func (g naming) numbers(n S.Node) S.Node {
	if n.Kind == S.Num && g.Intn(2) > 0 {
		return g.name(n, n.Num, width.Type{W: n.Num.W, Lsb: g.Intn(3), Signed: n.Signed})
	}
	kids := make([]S.Node, len(n.Kids))
	for i, kid := range n.Kids {
		kids[i] = g.numbers(kid)
	}
	n.Kids = kids
	return n
}

// parts returns a tree in which some parts have names whose values do not depend on where they stand: the part itself if own says that its context is its own.
func (g naming) parts(n S.Node, own bool) S.Node {
	letters := kinds[n.Kind]
	passes := strings.Contains(letters, "c")
	if (own || !passes) && g.Intn(3) == 0 {
		b, signed, e := fold.Value(n, g.env)
		if e == api.OK && b.X == 0 {
			x := width.Type{W: b.W, Signed: signed}
			if n.Kind >= S.Name && n.Kind <= S.Part {
				_, x = g.place(n)
			}
			return g.name(n, b, x)
		}
	}
	kids := make([]S.Node, len(n.Kids))
	for i, kid := range n.Kids {
		switch {
		case kid.Kind == S.Name && kid.Name == "g":
			kids[i] = kid
		case letters != "":
			kids[i] = g.parts(kid, letters[i] == 'o')
		default:
			kids[i] = g.parts(kid, n.Kind != S.Call)
		}
	}
	n.Kids = kids
	return n
}

// P11.2: numbers, in any states, and parts that are known can have names or not.
func TestRandomNames(t *testing.T) {
	named, found := map[int]int{}, map[api.Errno]int{}
	trials(20000, func(grown grower) {
		g := naming{grown, named}
		n := g.expr(1+g.Intn(6), true)
		for _, to := range []S.Node{g.numbers(n), g.parts(n, true), g.parts(g.numbers(n), true)} {
			b, signed, f := fold.Value(n, env())
			c, same, h := fold.Value(to, g.env)
			found[f]++
			if b != c || signed != same || f != h {
				t.Fatalf("%s, %v, error %d; with names %s, %v, error %d: %+v; %+v", states(b), signed, f, states(c), same, h, n, to)
			}
		}
	})
	for kind := S.Num; kind < S.Now; kind++ {
		if named[kind] < 100 {
			t.Errorf("kind %d had names %d times", kind, named[kind])
		}
	}
	if found[api.OK] < 50000 {
		t.Errorf("%v", found)
	}
}
