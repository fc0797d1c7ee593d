package width_test

import (
	"math"
	"strings"
	"testing"

	"maskwright/api"
	"maskwright/eval"
	S "maskwright/syntax"
	"maskwright/width"
)

// P10.5: values of constants, and whether they are signed.
func TestNumber(t *testing.T) {
	for s, want := range map[string]string{
		"7": "00000000000000000000000000000111s", "4'd9": "1001", "4'sd9": "1001s", "4'b1xz0": "1xz0", "4'd9 + 4'd9": "0010", "4'd3 - 5": "11111111111111111111111111111110", "k[1:0]": "11", "u": "1x0z", "v": "1110s", "w": "100101", "g.k": "10", "q.lo": "10s", "q.hi": "101",
		"1 / 0": strings.Repeat("x", 32) + "s", "u[2]": "x", "cat(u, v)": "1x0z1110", "rep(2, g.k)": "1010", "!u": "0", "v < 2": "1", "v < 4'd2": "0", "size(6, v)": "111110s", "size(6, unsigned(v))": "001110", "signed(g.k)": "10s",
		"f(4'd9)": "01101001s", "f(1)": "11100001s", "h()": "101", "two(-1, 3)": "00010s", "spin(1000)": "1", "f(h()) + 0": "11111111111111111111111110100101s", "f(h()) + 32'd0": "00000000000000000000000010100101", "u ? h() : f(0)": "00000101",
		"width(a)": strings.Repeat("0", 29) + "100s", "width(now)": strings.Repeat("0", 25) + "1000000s", "log(width(t))": strings.Repeat("0", 29) + "110s", "size(2, width(m[2]) - 1)": "11s",
	} {
		b, signed, f := width.Number(node(t, s), env())
		got := states(b)
		if signed {
			got += "s"
		}
		if got != want || f != (width.Fault{}) {
			t.Errorf("%s: %s, fault %+v, not %s", s, got, f, want)
		}
	}
}

// P10.5: what names a signal or the time is no constant, whatever it does with it, but for Width, which asks only for a type.
func TestNoConstants(t *testing.T) {
	for _, s := range []string{"a", "m[2]", "m[a]", "s.hi", "b[3]", "b[a]", "k[a]", "k[a +: 2]", "now", "a & 0", "1 ? 2 : a", "cat(k, a)", "f(a)", "size(1, a)", "rep(1, now)", "a == a", "a - a", "!now", "b[3:0][1]", "g.x", "g.m[7]", "unsigned(c)", "1 << a", "1 + (2 * (3 - c))"} {
		plus := S.Node{Kind: S.Plus, Line: 3, Col: 4, Kids: []S.Node{node(t, s)}}
		want := width.Fault{Line: 3, Col: 4, Code: api.ErrConst}
		faulty(t, s, S.Node{Kind: S.Rep, Kids: []S.Node{plus, node(t, "a")}}, want)
		if b, signed, f := width.Number(plus, env()); f != want || b != (api.Bits{}) || signed {
			t.Errorf("%s: %v, %v, fault %+v", s, b, signed, f)
		}
	}
}

// P10.5: numbers from lo to hi.
func TestInt(t *testing.T) {
	for _, x := range []struct {
		s      string
		lo, hi int64
		want   int64
		code   api.Errno
	}{
		{"5", 0, 9, 5, api.OK}, {"5", 5, 5, 5, api.OK}, {"5", 6, 9, 0, api.ErrRange}, {"5", 0, 4, 0, api.ErrRange}, {"5", 9, 0, 0, api.ErrRange},
		{"-5", -5, 9, -5, api.OK}, {"-5", -4, 9, 0, api.ErrRange}, {"v", -2, -2, -2, api.OK}, {"unsigned(v)", 14, 14, 14, api.OK}, {"4'd15", 0, 15, 15, api.OK}, {"4'sd15", -1, 15, -1, api.OK}, {"4'd15", -1, 14, 0, api.ErrRange},
		{"u", -9, 99, 0, api.ErrConst}, {"4'bz", 0, 0, 0, api.ErrConst}, {"4'bx", 1, 0, 0, api.ErrConst}, {"1 / 0", 0, 9, 0, api.ErrConst}, {"c", 0, 9, 0, api.ErrConst}, {"now", 0, 9, 0, api.ErrConst}, {"spin(1001)", 0, 9, 0, api.ErrLarge}, {"spin(1000)", 0, 9, 1, api.OK}, {"zz", 0, 9, 0, api.ErrNone},
		{"64'h7fffffffffffffff", 0, math.MaxInt64, math.MaxInt64, api.OK}, {"64'h8000000000000000", math.MinInt64, math.MaxInt64, 0, api.ErrRange}, {"64'hffffffffffffffff", -1, math.MaxInt64, 0, api.ErrRange},
		{"64'sh8000000000000000", math.MinInt64, math.MinInt64, math.MinInt64, api.OK}, {"64'sh8000000000000000", math.MinInt64 + 1, 0, 0, api.ErrRange}, {"64'shffffffffffffffff", -1, math.MaxInt64, -1, api.OK}, {"1'sd1", -1, 0, -1, api.OK}, {"1'd1", -1, 1, 1, api.OK},
	} {
		v, f := width.Int(node(t, x.s), env(), x.lo, x.hi)
		want := width.Fault{}
		if x.code != api.OK {
			want = width.Fault{Line: 1, Col: 1, Code: x.code}
		}
		if x.code == api.ErrNone {
			want.Text = "zz"
		}
		if v != x.want || f != want {
			t.Errorf("%s from %d to %d: %d, fault %+v, not %d, %+v", x.s, x.lo, x.hi, v, f, x.want, want)
		}
	}
}

// P10.5: the errors of eval are at the expression: too many turns, or too many levels for an expression of a design.
func TestLimitsOfConstants(t *testing.T) {
	spin := node(t, "1 + (spin(600) + spin(401))")
	if _, _, f := width.Number(spin, env()); f != (width.Fault{Line: 1, Col: 1, Code: api.ErrLarge}) {
		t.Error("too many turns:", f)
	}
	if _, _, f := width.Number(node(t, "1 + (spin(600) + spin(400))"), env()); f != (width.Fault{}) {
		t.Error("turns:", f)
	}
	deep := func(levels int) S.Node {
		n := S.Node{Kind: S.Num, Num: api.Bits{W: 4}, Line: 1, Col: 1}
		for range levels - 1 {
			n = S.Node{Kind: S.Not, Kids: []S.Node{n}, Line: 7, Col: 8}
		}
		return n
	}
	if b, _, f := width.Number(deep(api.MaxDeep), env()); f != (width.Fault{}) || b != vec("1111") {
		t.Error("as many levels as there can be:", b, f)
	}
	large := width.Fault{Line: 7, Col: 8, Code: api.ErrLarge}
	faulty(t, "levels", S.Node{Kind: S.Log, Kids: []S.Node{deep(api.MaxDeep + 1)}}, large)
	b, _, f := width.Number(deep(api.MaxDeep+1), env())
	if f != large || b != (api.Bits{}) {
		t.Error("too many levels:", b, f)
	}
	if e, _, f := width.Own(deep(api.MaxDeep+1), env()); f != (width.Fault{}) || e.Op != api.Not {
		t.Error("no constant is asked for:", f)
	}
}

// P10.5: constants do not need functions that are not called; the value is that of eval.
func TestEvaluated(t *testing.T) {
	e := env()
	e.Funcs = nil
	if b, _, f := width.Number(node(t, "width(t) * 3"), e); b.V != 192 || f != (width.Fault{}) {
		t.Error(b, f)
	}
	for _, s := range []string{"f(3) ^ v", "cat(u, h()) + 3", "two(1, 2) <= v", "-(v >>> 1)"} {
		n := node(t, s)
		x, _, _ := width.Own(n, env())
		want, err := eval.Expr(api.Design{Name: "d", Funcs: functions()}, eval.State{}, x)
		if b, _, f := width.Number(n, env()); b != want || err != api.OK || f != (width.Fault{}) {
			t.Errorf("%s: %v, fault %+v, not %v", s, b, f, want)
		}
	}
}
