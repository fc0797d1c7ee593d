package width_test

import (
	"testing"

	"maskwright/api"
	S "maskwright/syntax"
	"maskwright/width"
)

// owned checks the own values of sources.
func owned(t *testing.T, want map[string]string) {
	t.Helper()
	for s, w := range want {
		e, _, f := width.Own(node(t, s), env())
		if f != (width.Fault{}) || show(e) != w {
			t.Errorf("%s: %s, fault %+v, not %s", s, show(e), f, w)
		}
	}
}

// P10.2: operations that pass on their context, to which kids.
func TestPassing(t *testing.T) {
	owned(t, map[string]string{
		"+b": "b8s", "-b": "neg8s(b8s)", "~a": "not4(a4)", "-+a": "neg4(a4)", "+signed(a)": "a4",
		"a + b": "add8(resize8(a4), b8s)", "b - c": "sub8s(b8s, resize8s(c1s))", "a * a": "mul4(a4, a4)", "b / s.lo": "div8s(b8s, resize8s(slice2s@0(s5)))", "a % b": "mod8(resize8(a4), b8s)",
		"b & c": "and8s(b8s, resize8s(c1s))", "b ^ a": "xor8(b8s, resize8(a4))", "a | g.x": "or4(a4, resize4(g.x1))",
		"b + 1": "add32s(resize32s(b8s), 32'1s)", "a + 1": "add32(resize32(a4), 32'1s)", "a + 2'sd3": "add4(a4, 4'3)", "b + 2'sd3": "add8s(b8s, 8'255s)", "b + 2'd3": "add8(b8s, 8'3)", "b + 2'bx0": "add8(b8s, 8'b000000x0)", "b + 2'sbx0": "add8s(b8s, 8'bxxxxxxx0s)",
		"(a + a) * b": "mul8(add8(resize8(a4), resize8(a4)), b8s)", "b + (a ? c : b)": "add8s(b8s, cond8s(a4, resize8s(c1s), b8s))", "a ? b : c + c": "cond8s(a4, b8s, add8s(resize8s(c1s), resize8s(c1s)))", "a + a ? c : c": "cond1s(add4(a4, a4), c1s, c1s)",
		"c ? a : g.x": "cond4(c1s, a4, resize4(g.x1))", "b + c ? a : c": "cond4(add8s(b8s, resize8s(c1s)), a4, resize4(c1s))",
		"a << b": "shl4(a4, b8s)", "a << c + b": "shl4(a4, add8s(resize8s(c1s), b8s))", "b >> a": "shr8s(b8s, a4)", "b >>> a": "sar8s(b8s, a4)", "a >>> b": "shr4(a4, b8s)", "(c << a) + b": "add8s(shl8s(resize8s(c1s), a4), b8s)",
		"(b >>> 1) + 8'd0": "add8(shr8(b8s, 32'1s), 8'0)", "(c >>> 1) + b": "add8s(sar8s(resize8s(c1s), 32'1s), b8s)", "~c + a": "add4(not4(resize4(c1s)), a4)", "-c + b": "add8s(neg8s(resize8s(c1s)), b8s)",
	})
}

// P10.2: expressions with values of their own, and how their contexts extend them.
func TestAlone(t *testing.T) {
	owned(t, map[string]string{
		"7": "32'7s", "4'd7": "4'7", "4'sd7": "4'7s", "4'bxz01": "4'bxz01", "now": "now64", "k": "32'3s", "u": "4'b1x0z", "g.k": "2'2",
		"width(b)": "32'8s", "width(a + 1)": "32'32s", "width(now)": "32'64s", "width(m[2])": "32'4s", "width(log(k))": "32'32s",
		"log(0)": "32'0s", "log(1)": "32'0s", "log(2)": "32'1s", "log(3)": "32'2s", "log(4)": "32'2s", "log(5)": "32'3s", "log(-1)": "32'32s", "log(v)": "32'4s", "log(64'h8000000000000000)": "32'63s", "log(64'h8000000000000001)": "32'64s", "log(64'hffffffffffffffff)": "32'64s", "log(h())": "32'3s",
		"!b": "lnot1(b8s)", "&b": "redand1(b8s)", "|b": "redor1(b8s)", "^(a + c)": "redxor1(add4(a4, resize4(c1s)))", "b && c": "land1(b8s, c1s)", "a || b + c": "lor1(a4, add8s(b8s, resize8s(c1s)))",
		"b < c": "lt1s(b8s, resize8s(c1s))", "b <= c": "le1s(b8s, resize8s(c1s))", "b > c": "lt1s(resize8s(c1s), b8s)", "b >= c": "le1s(resize8s(c1s), b8s)",
		"a < b": "lt1(resize8(a4), b8s)", "a <= b": "le1(resize8(a4), b8s)", "a > b": "lt1(b8s, resize8(a4))", "a >= b": "le1(b8s, resize8(a4))",
		"b == c": "eq1(b8s, resize8s(c1s))", "b != a": "ne1(b8s, resize8(a4))", "a === 4'bx": "caseeq1(a4, 4'bxxxx)", "c !== b": "casene1(resize8s(c1s), b8s)", "a + a == b": "eq1(add8(resize8(a4), resize8(a4)), b8s)",
		"signed(a)": "a4", "unsigned(b)": "b8s", "signed(a + c)": "add4(a4, resize4(c1s))", "signed(a) + b": "add8s(resize8s(a4), b8s)", "unsigned(c) + b": "add8(resize8(c1s), b8s)", "signed(a + a) + b": "add8s(resize8s(add4(a4, a4)), b8s)",
		"size(9, b)": "resize9s(b8s)", "size(6, a)": "resize6(a4)", "size(8, b)": "b8s", "size(4, b)": "resize4s(b8s)", "size(2, a + a)": "add2(resize2(a4), resize2(a4))", "size(9, a + c)": "resize9(add4(a4, resize4(c1s)))", "size(2, c) + b": "add8s(resize8s(resize2s(c1s)), b8s)", "size(4, 7)": "4'7s", "size(4, v)": "4'14s", "size(6, v)": "6'62s",
		"cat(a)": "cat4(a4)", "cat(a, b + c, 1)": "cat44(a4, add8s(b8s, resize8s(c1s)), 32'1s)", "cat(a, c) + b": "add8(resize8(cat5(a4, c1s)), b8s)",
		"rep(3, a + c)": "rep12@3(add4(a4, resize4(c1s)))", "rep(1, b)": "rep8@1(b8s)", "rep(h(), c)": "rep5@5(c1s)", "rep(2, c) + b": "add8(resize8(rep2@2(c1s)), b8s)",
		"h()": "call3@1", "f(a)": "call8s@0(a4)", "f(c)": "call8s@0(resize4s(c1s))", "f(b)": "call8s@0(resize4s(b8s))", "f(g.x + g.x)": "call8s@0(add4(resize4(g.x1), resize4(g.x1)))", "two(b + b, c)": "call5s@2(add2s(resize2s(b8s), resize2s(b8s)), resize9s(c1s))", "f(1) + a": "add8(call8s@0(4'1s), resize8(a4))",
		"!a + b": "add8(resize8(lnot1(a4)), b8s)", "(b < c) + s.lo": "add2(resize2(lt1s(b8s, resize8s(c1s))), slice2s@0(s5))",
	})
}

// P10.2, P10.6: what is assigned to a vector of some width; bits that are cut off are not computed.
func TestAssigned(t *testing.T) {
	for _, x := range []struct {
		s    string
		w    int
		want string
	}{
		{"a", 4, "a4"}, {"a", 6, "resize6(a4)"}, {"b", 9, "resize9s(b8s)"}, {"b", 4, "resize4s(b8s)"}, {"a", 1, "resize1(a4)"},
		{"a + b", 9, "add9(resize9(a4), resize9(b8s))"}, {"b + b", 9, "add9s(resize9s(b8s), resize9s(b8s))"}, {"a + b", 3, "add3(resize3(a4), resize3(b8s))"}, {"a + b", 4, "add4(a4, resize4(b8s))"}, {"b + c", 4, "add4s(resize4s(b8s), resize4s(c1s))"},
		{"a + 3", 3, "add3(resize3(a4), 3'3)"}, {"b + 3", 3, "add3s(resize3s(b8s), 3'3s)"}, {"b * 3 - a", 4, "sub4(mul4(resize4(b8s), 4'3), a4)"},
		{"signed(a) - c", 2, "sub2s(resize2s(a4), resize2s(c1s))"}, {"~b | -a", 2, "or2(not2(resize2(b8s)), neg2(resize2(a4)))"}, {"b & b ^ b", 5, "xor5s(and5s(resize5s(b8s), resize5s(b8s)), resize5s(b8s))"},
		{"b / c", 4, "resize4s(div8s(b8s, resize8s(c1s)))"}, {"b % a", 4, "resize4(mod8(b8s, resize8(a4)))"}, {"b << a", 4, "shl4s(resize4s(b8s), a4)"}, {"b << a", 9, "shl9s(resize9s(b8s), a4)"}, {"b >> a", 4, "resize4s(shr8s(b8s, a4))"}, {"b >>> a", 10, "sar10s(resize10s(b8s), a4)"},
		{"a ? b : c", 4, "cond4s(a4, resize4s(b8s), resize4s(c1s))"}, {"b ? a : a", 9, "cond9(b8s, resize9(a4), resize9(a4))"}, {"a ? b + b : 7", 2, "cond2s(a4, add2s(resize2s(b8s), resize2s(b8s)), 2'3s)"},
		{"7", 2, "2'3s"}, {"7", 64, "64'7s"}, {"4'sd9", 8, "8'249s"}, {"4'd9", 8, "8'9"}, {"v", 2, "2'2s"}, {"u", 6, "6'b001x0z"}, {"4'sbx0zz", 6, "6'bxxx0zzs"}, {"4'bx0zz", 2, "2'bzz"},
		{"now", 8, "resize8(now64)"}, {"cat(a, b)", 4, "resize4(cat12(a4, b8s))"}, {"rep(2, a)", 9, "resize9(rep8@2(a4))"}, {"s.lo", 9, "resize9s(slice2s@0(s5))"}, {"f(a)", 4, "resize4s(call8s@0(a4))"}, {"a == b", 3, "resize3(eq1(resize8(a4), b8s))"}, {"signed(a + a)", 2, "add2(resize2s(a4), resize2s(a4))"}, {"signed(a + a)", 6, "resize6s(add4(a4, a4))"},
		{"size(9, c)", 4, "resize4s(c1s)"}, {"size(9, b)", 4, "resize4s(b8s)"}, {"size(9, b)", 8, "b8s"}, {"size(4, b)", 2, "resize2s(b8s)"}, {"size(9, a) + size(9, c)", 4, "add4(a4, resize4s(c1s))"}, {"size(12, a + c)", 10, "resize10(add4(a4, resize4(c1s)))"}, {"size(12, a + c)", 3, "add3(resize3(a4), resize3(c1s))"},
		{"t + t", 64, "add64(t64, t64)"}, {"b", 64, "resize64s(b8s)"}, {"t", 1, "resize1(t64)"},
	} {
		e, f := width.Assigned(node(t, x.s), env(), x.w)
		if f != (width.Fault{}) || show(e) != x.want {
			t.Errorf("%s to %d bits: %s, fault %+v, not %s", x.s, x.w, show(e), f, x.want)
		}
	}
}

// P10.6: several expressions in the context of the greatest width, signed if all are.
func TestTogether(t *testing.T) {
	for _, x := range []struct{ s, want []string }{
		{nil, nil}, {[]string{"a"}, []string{"a4"}}, {[]string{"b"}, []string{"b8s"}},
		{[]string{"a", "b", "9'd1"}, []string{"resize9(a4)", "resize9(b8s)", "9'1"}},
		{[]string{"c", "b", "s.lo"}, []string{"resize8s(c1s)", "b8s", "resize8s(slice2s@0(s5))"}},
		{[]string{"c + c", "b", "g.x"}, []string{"add8(resize8(c1s), resize8(c1s))", "b8s", "resize8(g.x1)"}},
		{[]string{"a", "4'b1xz0", "6'sd33"}, []string{"resize6(a4)", "6'b001xz0", "6'33s"}},
	} {
		var l []S.Node
		for _, s := range x.s {
			l = append(l, node(t, s))
		}
		values, f := width.Together(l, env())
		if f != (width.Fault{}) || len(values) != len(x.want) {
			t.Errorf("%v: %d values, fault %+v", x.s, len(values), f)
			continue
		}
		for i, e := range values {
			if show(e) != x.want[i] {
				t.Errorf("%v: %s, not %s", x.s, show(e), x.want[i])
			}
		}
	}
}

// P10.2: constants, also of vectors that are not valid.
func TestConstant(t *testing.T) {
	for _, b := range []api.Bits{{W: 4, V: 9}, vec("1xz0"), {W: 64, V: 1 << 63}, {}, {W: -1, V: 5}, {W: 2, V: 9}} {
		for _, signed := range []bool{false, true} {
			e := width.Constant(b, signed)
			want := api.Expr{Op: api.Const, W: b.W, N: b, Signed: signed}
			if len(e.Kids) > 0 || e.Op != want.Op || e.W != want.W || e.N != want.N || e.Signed != signed || e.Sig != 0 || e.Local || e.At != 0 {
				t.Errorf("%+v: %+v", b, e)
			}
		}
	}
}

// P10.2: the example of the chapter.
func TestExample(t *testing.T) {
	e := width.Env{Names: map[string]width.Thing{
		"a": {Kind: width.Signal, Type: width.Type{W: 4}, Elems: 1},
		"b": {Kind: width.Signal, Sig: 1, Type: width.Type{W: 8}, Elems: 1},
	}}
	x, f := width.Assigned(node(t, "a + b"), e, 9)
	if show(x) != "add9(resize9(a4), resize9(b8))" || f != (width.Fault{}) {
		t.Error(show(x), f)
	}
	if _, x, f := width.Own(node(t, "cat(a + b)"), e); x.W != 8 || x.Signed || f != (width.Fault{}) {
		t.Error(x, f)
	}
}
