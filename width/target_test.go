package width_test

import (
	"testing"

	"maskwright/api"
	"maskwright/design"
	S "maskwright/syntax"
	"maskwright/width"
)

// P10.7: what assignments set; a design can set it.
func TestTargets(t *testing.T) {
	for s, want := range map[string]string{
		"a": "a4", "b": "b8s", "s": "s5", "g.x": "g.x1", "m[2]": "m4[1'0]", "m[a]": "m4[sub4(a4, 4'2)]", "g.m[7]": "g.m2s[1'0]", "n[c]": "n8[slice2@0(resize2s(c1s))]",
		"b[3]": "slice1@3(b8s)", "b[6:2]": "slice5@2(b8s)", "b[1 +: 3]": "slice3@1(b8s)", "b[7:0]": "slice8@0(b8s)", "l[9:6]": "slice4@2(l6s)", "s.hi": "slice3@2(s5)", "s.lo": "slice2s@0(s5)", "y.p.lo": "slice2s@3(y8)", "y.p.hi[3:2][1]": "slice1@7(y8)", "b[6:2][4:1][1 +: 2]": "slice2@4(b8s)",
		"m[a][1]": "slice1@1(m4[sub4(a4, 4'2)])", "n[a].p.hi": "slice3@5(n8[a4])", "n[1].z[7:6]": "slice2@1(n8[1'1])",
		"b[a]": "part1(b8s, a4)", "b[a +: 3]": "part3(b8s, a4)", "s[a]": "part1(s5, a4)", "l[b +: 2]": "part2(l6s, sub8(slice8@0(b8s), 8'4))", "m[a][a]": "part1(m4[sub4(a4, 4'2)], a4)", "n[1][a +: 2]": "part2(n8[1'1], a4)",
		"cat(a)": "cat4(a4)", "cat(a, b[1])": "cat5(a4, slice1@1(b8s))", "cat(cat(a, c), m[a], b[a +: 3])": "cat12(cat5(a4, c1s), m4[sub4(a4, 4'2)], part3(b8s, a4))", "cat(t)": "cat64(t64)", "cat(s, s)": "cat10(s5, s5)", "cat(b, b, b, b, b, b, b, b)": "cat64(b8s, b8s, b8s, b8s, b8s, b8s, b8s, b8s)",
	} {
		e, f := width.Target(node(t, s), env())
		if f != (width.Fault{}) || show(e) != want {
			t.Errorf("%s: %s, fault %+v, not %s", s, show(e), f, want)
		}
		set := api.Stmt{Op: api.Set, To: e, Args: []api.Expr{{Op: api.Resize, W: e.W, Kids: []api.Expr{num(1, 1)}}}}
		if e := design.CheckStmt(designOf(env()), set, false); e != api.OK {
			t.Errorf("%s: error %d of a Set", s, e)
		}
	}
}

// P10.7: what cannot be set.
func TestFaultsOfTargets(t *testing.T) {
	for _, x := range []wrong{
		{"@m", api.ErrType, "m"}, {"@g.m", api.ErrType, "g.m"}, {"@m.x", api.ErrType, "m"},
		{"@k", api.ErrType, "k"}, {"@g.k", api.ErrType, "g.k"}, {"@g.k[0]", api.ErrType, "g.k"}, {"@k[3:1]", api.ErrType, "k"}, {"@k[a]", api.ErrType, "k"}, {"@q.hi", api.ErrType, "q"}, {"@q.hi[1]", api.ErrType, "q"},
		{"@s.hi[a]", api.ErrType, "s"}, {"@b[3:0][a]", api.ErrType, "b"}, {"@b[3][a]", api.ErrType, "b"}, {"@b[3:0][a +: 2]", api.ErrType, "b"}, {"@m[2][3:0][a]", api.ErrType, "m"}, {"@n[a].p[a]", api.ErrType, "n"},
		{"@b[a +: 3][1]", api.ErrType, "b"}, {"@b[a +: 3][2:1]", api.ErrType, "b"}, {"@b[a][0]", api.ErrType, "b"}, {"@b[a +: 3][a]", api.ErrType, "b"}, {"@b[a +: 3][1:0][0]", api.ErrType, "b"}, {"@g.x[a][0]", api.ErrType, "g.x"},
		{"@f", api.ErrType, "f"}, {"@g", api.ErrType, "g"}, {"@zz", api.ErrNone, "zz"}, {"@g.no", api.ErrNone, "g.no"}, {"@s.no", api.ErrNone, "no"}, {"b[@8]", api.ErrRange, ""}, {"k[@99]", api.ErrRange, ""}, {"b[3:0][@zz]", api.ErrNone, "zz"}, {"b[a +: 3][@3]", api.ErrRange, ""},
		{"cat(a, @k)", api.ErrType, "k"}, {"cat(@zz, k)", api.ErrNone, "zz"}, {"cat(@m, zz)", api.ErrType, "m"}, {"cat(a, b[@8], zz)", api.ErrRange, ""}, {"cat(cat(a, @m), k)", api.ErrType, "m"},
		{"@cat(t, c)", api.ErrLarge, ""}, {"cat(a, @cat(t, t), k)", api.ErrLarge, ""}, {"@cat(cat(t), cat(c))", api.ErrLarge, ""}, {"cat(t, t, @k)", api.ErrType, "k"}, {"cat(t, t, @zz)", api.ErrNone, "zz"},
	} {
		n, want := x.node(t)
		if e, f := width.Target(n, env()); f != want || !none(e) {
			t.Errorf("%s: %s, fault %+v, not %+v", x.source, show(e), f, want)
		}
	}
}

// P10.7: a fault of a target is at the whole target.
func TestPlacesOfTargets(t *testing.T) {
	inner := S.Node{Kind: S.Slice, Line: 3, Col: 4, Kids: []S.Node{{Kind: S.Name, Name: "b", Line: 5, Col: 6}, node(t, "3"), node(t, "0")}}
	n := S.Node{Kind: S.Index, Line: 1, Col: 2, Kids: []S.Node{inner, node(t, "a")}}
	if _, f := width.Target(n, env()); f != (width.Fault{Line: 1, Col: 2, Code: api.ErrType, Text: "b"}) {
		t.Error(f)
	}
	cat := S.Node{Kind: S.Cat, Line: 7, Col: 8, Kids: []S.Node{node(t, "t"), node(t, "t")}}
	if _, f := width.Target(cat, env()); f != (width.Fault{Line: 7, Col: 8, Code: api.ErrLarge}) {
		t.Error(f)
	}
}

// P10.7: the name with which a place begins.
func TestRoot(t *testing.T) {
	for s, want := range map[string]string{"a": "a", "zz": "zz", "b[3]": "b", "b[6:2][a +: 1][0]": "b", "s.hi": "s", "g.x": "g", "g.m[7][0]": "g", "n[a].p.hi[m[2]]": "n", "cat(a, b)": "", "7": "", "a + b": "", "f(a)": ""} {
		if r := width.Root(node(t, s)); r != want {
			t.Errorf("%s: %q, not %q", s, r, want)
		}
	}
	if r := width.Root(S.Node{Kind: S.Index}); r != "" {
		t.Error(r)
	}
}
