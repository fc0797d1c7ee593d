package width_test

import (
	"math"
	"testing"

	"maskwright/api"
	S "maskwright/syntax"
	"maskwright/width"
)

// P10.3: the values of places.
func TestPlaces(t *testing.T) {
	owned(t, map[string]string{
		"a": "a4", "b": "b8s", "s": "s5", "k": "32'3s", "u": "4'b1x0z", "g.x": "g.x1", "g.k": "2'2",
		// elements
		"m[2]": "m4[1'0]", "m[3]": "m4[1'1]", "m[4]": "m4[2'2]", "m[k]": "m4[1'1]", "g.m[7]": "g.m2s[1'0]", "e[0]": "e3[1'0]", "n[1]": "n8[1'1]",
		// fields
		"s.hi": "slice3@2(s5)", "s.lo": "slice2s@0(s5)", "y.p": "slice5@3(y8)", "y.p.hi": "slice3@5(y8)", "y.p.lo": "slice2s@3(y8)", "y.z": "slice3s@0(y8)", "n[1].p.lo": "slice2s@3(n8[1'1])", "q.hi": "slice3@2(5'22)",
		// fixed bits
		"b[0]": "slice1@0(b8s)", "b[7]": "slice1@7(b8s)", "a[k]": "slice1@3(a4)", "b[6:2]": "slice5@2(b8s)", "b[7:0]": "slice8@0(b8s)", "b[3:3]": "slice1@3(b8s)", "b[1 +: 3]": "slice3@1(b8s)", "b[0 +: 8]": "slice8@0(b8s)", "b[7 +: 1]": "slice1@7(b8s)", "t[63]": "slice1@63(t64)", "m[2][3:1]": "slice3@1(m4[1'0])", "u[2]": "slice1@2(4'b1x0z)",
		// numbers of bits that do not begin with 0
		"l[4]": "slice1@0(l6s)", "l[9]": "slice1@5(l6s)", "l[9:4]": "slice6@0(l6s)", "l[7:5]": "slice3@1(l6s)", "l[5 +: 2]": "slice2@1(l6s)", "w[3]": "slice1@0(6'37)", "w[8:7]": "slice2@4(6'37)",
		"s.hi[1]": "slice1@2(s5)", "s.hi[3:2]": "slice2@3(s5)", "y.z[5]": "slice1@0(y8)", "y.z[7:6]": "slice2@1(y8)",
		// parts of parts: they begin with bit 0, and are not signed
		"b[6:2][0]": "slice1@2(b8s)", "b[6:2][4:1]": "slice4@3(b8s)", "b[6:2][4:1][1 +: 2]": "slice2@4(b8s)", "y.p.hi[3:2][1]": "slice1@7(y8)", "l[9:6][1]": "slice1@3(l6s)", "s.lo[1:0]": "slice2@0(s5)",
		// variable bits
		"b[a]": "part1(b8s, a4)", "b[a +: 3]": "part3(b8s, a4)", "s.hi[a]": "part1(slice3@2(s5), sub4(a4, 4'1))", "b[6:2][a]": "part1(slice5@2(b8s), a4)", "k[a]": "part1(32'3s, resize5(a4))", "m[a][c]": "part1(m4[sub4(a4, 4'2)], slice3@0(resize3s(c1s)))",
		"b[a +: 3][1]": "slice1@1(part3(b8s, a4))", "b[a +: 4][2:1]": "slice2@1(part4(b8s, a4))", "b[a +: 4][2:1][1]": "slice1@2(part4(b8s, a4))", "b[a +: 4][g.x]": "part1(part4(b8s, a4), resize2(g.x1))", "s[a][0]": "slice1@0(part1(s5, a4))",
	})
}

// P10.4: indices that are no constants.
func TestIndices(t *testing.T) {
	owned(t, map[string]string{
		// as many bits as the last number needs, and not less than there are
		"m[a]": "m4[sub4(a4, 4'2)]", "m[g.x]": "m4[sub3(resize3(g.x1), 3'2)]", "m[t]": "m4[sub64(t64, 64'2)]", "m[now]": "m4[sub64(now64, 64'2)]", "n[a]": "n8[a4]", "n[g.x]": "n8[g.x1]", "e[g.x]": "e3[g.x1]", "e[a]": "e3[a4]", "g.m[g.x]": "g.m2s[sub3(resize3(g.x1), 3'7)]",
		"t[a]": "part1(t64, resize6(a4))", "t[unsigned(b)]": "part1(t64, slice8@0(b8s))", "b[g.x]": "part1(b8s, resize3(g.x1))", "c[g.x]": "part1(c1s, g.x1)", "l[g.x]": "part1(l6s, sub4(resize4(g.x1), 4'4))", "l[a +: 2]": "part2(l6s, sub4(a4, 4'4))",
		// one more if they are signed, and then a slice
		"m[c]": "m4[sub4(slice4@0(resize4s(c1s)), 4'2)]", "m[b]": "m4[sub8(slice8@0(b8s), 8'2)]", "n[c]": "n8[slice2@0(resize2s(c1s))]", "e[c]": "e3[slice1@0(c1s)]", "t[c]": "part1(t64, slice7@0(resize7s(c1s)))", "b[b]": "part1(b8s, slice8@0(b8s))", "b[s.lo +: 2]": "part2(b8s, slice4@0(resize4s(slice2s@0(s5))))", "l[c]": "part1(l6s, sub5(slice5@0(resize5s(c1s)), 5'4))",
		// a value that is not Signed needs no slice, even if its type is signed
		"m[signed(a)]": "m4[sub4(a4, 4'2)]", "n[signed(a)]": "n8[a4]", "m[signed(g.x)]": "m4[sub4(slice4@0(resize4s(g.x1)), 4'2)]", "m[signed(a[2:0])]": "m4[sub4(slice4@0(resize4s(slice3@0(a4))), 4'2)]",
		// the own value is extended, not what it is made of
		"m[g.x + g.x]": "m4[sub3(resize3(add1(g.x1, g.x1)), 3'2)]", "m[-b]": "m4[sub8(slice8@0(neg8s(b8s)), 8'2)]", "m[c + c]": "m4[sub4(slice4@0(resize4s(add1s(c1s, c1s))), 4'2)]", "b[a + 1]": "part1(b8s, add32(resize32(a4), 32'1s))", "b[a - a]": "part1(b8s, sub4(a4, a4))", "t[f(a)]": "part1(t64, slice8@0(call8s@0(a4)))",
		// indices within indices
		"m[m[a]]": "m4[sub4(m4[sub4(a4, 4'2)], 4'2)]", "b[b[a +: 3]]": "part1(b8s, part3(b8s, a4))",
	})
}

// P10.4: indices that are constants: numbers counted from the first one, with as many bits as they need.
func TestConstantIndices(t *testing.T) {
	owned(t, map[string]string{
		"m[width(b) - 5]": "m4[1'1]", "m[log(k)]": "m4[1'0]", "b[h()]": "slice1@5(b8s)", "b[h() +: 3]": "slice3@5(b8s)", "m[g.k]": "m4[1'0]", "b[1 ? k : 7]": "slice1@3(b8s)", "b[v + 3]": "slice1@1(b8s)", "b[width(now) - 60]": "slice1@4(b8s)", "t[spin(7)]": "slice1@1(t64)", "b[k[1:0]]": "slice1@3(b8s)",
	})
	e := env()
	x := e.Names["m"]
	x.First, x.Elems = 1000, 32
	e.Names["m"] = x
	for s, want := range map[string]string{"m[1000]": "m4[1'0]", "m[1003]": "m4[2'3]", "m[1004]": "m4[3'4]", "m[1031]": "m4[5'31]", "m[a]": "m4[sub11(resize11(a4), 11'1000)]", "m[c]": "m4[sub12(slice12@0(resize12s(c1s)), 12'1000)]"} {
		if v, _, f := width.Own(node(t, s), e); show(v) != want || f != (width.Fault{}) {
			t.Errorf("%s: %s, fault %+v, not %s", s, show(v), f, want)
		}
	}
}

// P10.3: variables of functions are Local.
func TestLocals(t *testing.T) {
	for s, want := range map[string]string{"a": "%a4", "m[a]": "%m4[sub4(%a4, 4'2)]", "m[3]": "%m4[1'1]", "b[a +: 2]": "part2(%b8s, %a4)", "y.p.hi": "slice3@5(%y8)"} {
		if e, _, f := width.Own(node(t, s), locals()); show(e) != want || f != (width.Fault{}) {
			t.Errorf("%s: %s, fault %+v, not %s", s, show(e), f, want)
		}
		if e, f := width.Target(node(t, s), locals()); show(e) != want || f != (width.Fault{}) {
			t.Errorf("target %s: %s, fault %+v, not %s", s, show(e), f, want)
		}
	}
	if _, _, f := width.Number(node(t, "a"), locals()); f.Code != api.ErrConst {
		t.Error("a variable is no constant:", f)
	}
}

// P10.3, P10.4: each fault of places, with its place.
func TestFaultsOfPlaces(t *testing.T) {
	for _, x := range []wrong{
		{"1 + @zz", api.ErrNone, "zz"}, {"1 + @zz[0]", api.ErrNone, "zz"}, {"@zz.y", api.ErrNone, "zz"}, {"@zz[0][1]", api.ErrNone, "zz"},
		{"1 + @f", api.ErrType, "f"}, {"@f[0]", api.ErrType, "f"}, {"@f.x", api.ErrType, "f"}, {"@g", api.ErrType, "g"}, {"@g[0]", api.ErrType, "g"},
		{"@g.no", api.ErrNone, "g.no"}, {"@g.no[1]", api.ErrNone, "g.no"}, {"@g.no.x", api.ErrNone, "g.no"}, {"@g.f", api.ErrType, "g.f"}, {"@g.h", api.ErrType, "g.h"}, {"@g.h.x", api.ErrType, "g.h"}, {"@g.m", api.ErrType, "g.m"}, {"@g.m.x", api.ErrType, "g.m"},
		{"@m.x", api.ErrType, "m"}, {"@m[3:2]", api.ErrType, "m"}, {"@m[2 +: 2]", api.ErrType, "m"}, {"@g.m[7:7]", api.ErrType, "g.m"}, {"@g.m[7:7][0]", api.ErrType, "g.m"},
		{"m[@5]", api.ErrRange, ""}, {"m[@1]", api.ErrRange, ""}, {"m[@-1]", api.ErrRange, ""}, {"m[@u]", api.ErrConst, ""}, {"m[@m]", api.ErrType, "m"}, {"g.m[@6]", api.ErrRange, ""}, {"g.m[@8]", api.ErrRange, ""}, {"e[@1]", api.ErrRange, ""}, {"n[@2].p", api.ErrRange, ""}, {"m[@64'h8000000000000003]", api.ErrRange, ""},
		{"@s.no", api.ErrNone, "no"}, {"@a.hi", api.ErrNone, "hi"}, {"@s.hi.lo", api.ErrNone, "lo"}, {"@y.p.z", api.ErrNone, "z"}, {"@k.x", api.ErrNone, "x"}, {"@s[4:0].hi", api.ErrNone, "hi"}, {"@s[3].x", api.ErrNone, "x"},
		{"a[@4]", api.ErrRange, ""}, {"a[@-1]", api.ErrRange, ""}, {"l[@3]", api.ErrRange, ""}, {"l[@10]", api.ErrRange, ""}, {"a[@4'bx]", api.ErrConst, ""}, {"a[@1 / 0]", api.ErrConst, ""}, {"s.hi[@0]", api.ErrRange, ""}, {"s.hi[@4]", api.ErrRange, ""}, {"s.hi[2:1][@2]", api.ErrRange, ""}, {"b[@4'sd15]", api.ErrRange, ""},
		{"a[@4:0]", api.ErrRange, ""}, {"a[@-1:0]", api.ErrRange, ""}, {"a[1:@2]", api.ErrRange, ""}, {"a[1:@-1]", api.ErrRange, ""}, {"a[@b:0]", api.ErrConst, ""}, {"a[1:@b]", api.ErrConst, ""}, {"a[@u:0]", api.ErrConst, ""}, {"a[3:@u]", api.ErrConst, ""}, {"l[5:@3]", api.ErrRange, ""}, {"l[@3:3]", api.ErrRange, ""}, {"l[@10:4]", api.ErrRange, ""}, {"b[6:2][@5:0]", api.ErrRange, ""},
		{"b[a +: @0]", api.ErrRange, ""}, {"b[a +: @9]", api.ErrRange, ""}, {"b[a +: @c]", api.ErrConst, ""}, {"b[a +: @u]", api.ErrConst, ""}, {"b[@6 +: 3]", api.ErrRange, ""}, {"b[@-1 +: 3]", api.ErrRange, ""}, {"b[@8 +: 1]", api.ErrRange, ""}, {"b[@u +: 1]", api.ErrConst, ""}, {"b[3:0][@2 +: 3]", api.ErrRange, ""}, {"l[@8 +: 3]", api.ErrRange, ""}, {"l[@3 +: 2]", api.ErrRange, ""},
		{"b[@zz]", api.ErrNone, "zz"}, {"b[0][@zz]", api.ErrNone, "zz"}, {"b[b[@9]]", api.ErrRange, ""}, {"m[m[@0]]", api.ErrRange, ""}, {"m[@m[2:2]]", api.ErrType, "m"},
	} {
		n, want := x.node(t)
		faulty(t, x.source, n, want)
		if e, f := width.Target(n, env()); n.Kind >= S.Name && n.Kind <= S.Part && (f != want || !none(e)) {
			t.Errorf("target %s: %+v, fault %+v, not %+v", x.source, e, f, want)
		}
	}
}

// P10.1, P10.3: of several faults of a place, the first one: those of all kids, then those of what is made of them, in the order of the chapter.
func TestOrderInPlaces(t *testing.T) {
	for _, x := range []wrong{
		{"@zz[yy]", api.ErrNone, "zz"}, {"b[@zz:yy]", api.ErrNone, "zz"}, {"b[9:@zz]", api.ErrNone, "zz"}, {"b[a:@zz]", api.ErrNone, "zz"}, {"b[@9:a]", api.ErrRange, ""}, {"b[@a:9]", api.ErrConst, ""},
		{"b[@zz +: yy]", api.ErrNone, "zz"}, {"b[9 +: @zz]", api.ErrNone, "zz"}, {"b[9 +: @9]", api.ErrRange, ""}, {"b[u +: @a]", api.ErrConst, ""}, {"b[@u +: 8]", api.ErrConst, ""},
		{"m[@zz:0]", api.ErrNone, "zz"}, {"m[0 +: @zz]", api.ErrNone, "zz"}, {"@m[a:0]", api.ErrType, "m"}, {"@m[0:9]", api.ErrType, "m"}, {"@m[0 +: a]", api.ErrType, "m"},
		{"b[@9][zz]", api.ErrRange, ""}, {"m[@9][zz]", api.ErrRange, ""}, {"@m.x[zz]", api.ErrType, "m"}, {"@s.no[zz]", api.ErrNone, "no"}, {"@g.no[zz]", api.ErrNone, "g.no"},
		{"b[@9] + zz", api.ErrRange, ""}, {"f(b[@9]) + zz", api.ErrRange, ""}, {"@m + zz", api.ErrType, "m"}, {"a[1 +: @5][9]", api.ErrRange, ""},
	} {
		n, want := x.node(t)
		faulty(t, x.source, n, want)
	}
}

// P10.3: the first kid of a selection that is no place.
func TestNoPlace(t *testing.T) {
	leaf := func(kind int, kids ...S.Node) S.Node { return S.Node{Kind: kind, Line: 5, Col: 6, Kids: kids} }
	one := S.Node{Kind: S.Num, Num: api.Bits{W: 1}}
	name := S.Node{Kind: S.Name, Name: "a"}
	call := leaf(S.Call)
	call.Name = "h"
	for _, kid := range []S.Node{leaf(S.Now), leaf(S.Plus, name), leaf(S.Add, name, name), leaf(S.Cat, name), leaf(S.Cond, name, name, name), call} {
		for kind, more := range map[int]int{S.Select: 0, S.Index: 1, S.Slice: 2, S.Part: 2} {
			n := S.Node{Kind: kind, Line: 1, Col: 2, Kids: []S.Node{kid}}
			for range more {
				n.Kids = append(n.Kids, one)
			}
			if kind == S.Select {
				n.Name = "x"
			}
			faulty(t, "no place", n, width.Fault{Line: 5, Col: 6, Code: api.ErrType})
		}
	}
}

// P10.3, P10.4: numbers of bits and elements up to the greatest ones, and below 0.
func TestFarNumbers(t *testing.T) {
	e := env()
	far := func(lsb, w int) {
		e.Names["far"] = width.Thing{Kind: width.Signal, Type: width.Type{W: w, Lsb: lsb}, Elems: 1}
		e.Names["row"] = width.Thing{Kind: width.Signal, Type: width.Type{W: 4}, Array: true, First: lsb, Elems: min(w, 32)}
	}
	far(math.MaxInt64-3, 4)
	for s, want := range map[string]string{
		"far[64'h7fffffffffffffff]": "slice1@3(a4)", "far[64'h7ffffffffffffffc]": "slice1@0(a4)", "far[64'h7fffffffffffffff:64'h7ffffffffffffffd]": "slice3@1(a4)", "row[64'h7fffffffffffffff]": "a4[2'3]",
		"far[a]": "part1(a4, sub63(resize63(a4), 63'9223372036854775804))", "row[c]": "a4[sub64(slice64@0(resize64s(c1s)), 64'9223372036854775804)]",
	} {
		if v, _, f := width.Own(node(t, s), e); show(v) != want || f != (width.Fault{}) {
			t.Errorf("%s: %s, fault %+v, not %s", s, show(v), f, want)
		}
	}
	far(math.MaxInt64, 4) // bits beyond cannot be named
	if v, _, f := width.Own(node(t, "far[64'h7fffffffffffffff]"), e); show(v) != "slice1@0(a4)" || f != (width.Fault{}) {
		t.Error(show(v), f)
	}
	e.Names["row"] = width.Thing{Kind: width.Signal, Type: width.Type{W: 4}, Array: true, First: -2, Elems: 4}
	for s, want := range map[string]string{"row[-2]": "a4[1'0]", "row[-1]": "a4[1'1]", "row[1]": "a4[2'3]", "row[s.lo]": "a4[sub2(slice2@0(slice2s@0(s5)), 2'2)]"} {
		if v, _, f := width.Own(node(t, s), e); show(v) != want || f != (width.Fault{}) {
			t.Errorf("%s: %s, fault %+v, not %s", s, show(v), f, want)
		}
	}
	e.Names["low"] = width.Thing{Kind: width.Signal, Type: width.Type{W: 4}, Array: true, First: -4, Elems: 2}
	if v, _, f := width.Own(node(t, "low[a]"), e); show(v) != "a4[sub4(a4, 4'12)]" || f != (width.Fault{}) {
		t.Error(show(v), f)
	}
	if _, _, f := width.Own(node(t, "row[2]"), e); f != (width.Fault{Line: 1, Col: 5, Code: api.ErrRange}) {
		t.Error(f)
	}
}
