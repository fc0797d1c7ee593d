package lint_test

import (
	"testing"

	"maskwright/api"
	"maskwright/design"
	"maskwright/lint"
)

// P13.8: constants that are not known.
func TestUnknown(t *testing.T) {
	check(t, []row{
		{members: "wire w; assign w = 1'bx;", want: "unknown p1 -"},
		{members: "wire w; assign w = 1'bz; assign w = x === 4'bz1;", want: "several p2 w, unknown p1 -, unknown p2 -"},
		{members: "wire w; assign w = x & (1 + cat(x, 2'bx1));", want: "unknown p1 -"},
		{members: "comb if (1'bx) ;", want: "unknown p1 -"},
		{members: "var v; seq (rise clk) { ; { v = 1'bx; } }", want: "unknown p1 -"},
		{members: "function f(a) { f = a ^ 1'bx; } wire w; assign w = f(1);", want: "unknown f0 -"},
		{members: "function f(a) { f = a; } wire w; assign w = f(1'bx);", want: "unknown p1 -"},
		{members: "property p (rise clk) 1 -> 1'bx; property r (rise clk) 1 -> [x then (1) 1'bz];", want: "unknown - -"},
		{members: "property r (rise clk) [1'bz == x] -> 1;", want: "unknown - -"},
		{members: "var v; initial v = 1'bx; comb while (1'bx) ;", want: "kind p1 -, kind p2 -, unknown p1 -, unknown p2 -"},
		{members: "var v = 1'bx; wire w; assign w = x;", want: "- -: 0 1"},
		// Patterns.
		{members: "comb casez (x) { 4'bz1: ; }", want: "- -: 0 1"},
		{members: "comb casex (x) { 1, 4'bx1, 4'bzx01: ; 4'bz: ; default: ; }", want: "- -: 0 1"},
		{members: "comb casex (x) { 1: ; 4'bx1 | x: ; }", want: "unknown p1 -"},
		{members: "comb casez (x) { 4'bz1: casez (x & 4'bz) { 2: ; } }", want: "unknown p1 -"},
		{members: "comb casez (x) { 4'bz1: casez (x) { 4'bz: case (x) { 4'bz: ; } } }", want: "unknown p1 -"},
		{members: "comb case (x) { 4'bz1: ; }", want: "unknown p1 -"},
		{members: "comb case (x) { 1: ; default: ; 2, 4'b1x: ; }", want: "unknown p1 -"},
		{members: "function f([3:0] a) { f = 0; casez (a) { 4'bz1: f = 1; } } wire w; assign w = f(x);", want: "- -: 0 1"},
		{members: "function f([3:0] a) { f = 0; case (a) { 4'bz1: f = 1; } } wire w; assign w = f(x);", want: "unknown f0 -"},
	})
	// In targets.
	check(t, []row{
		{members: "var v [0:3]; comb { v[0] = x; v[1] = x; v[2] = x; v[3] = x; }", want: "unknown p1 -, index p1 v", change: func(d *api.Design) {
			d.Procs[1].Body.Kids[3].To.Kids[0] = some(2)
		}},
		{members: "wire v [0:3]; assign v[0] = x;", want: "unknown p1 -, index p1 v", change: func(d *api.Design) {
			d.Procs[1].Body.To.Kids[0] = some(2)
		}},
	})
}

// number is an expression that is used as an index, and the greatest number that it can have; -1 if it is none for which this is known.
type number struct {
	what string
	e    api.Expr
	most int
}

// numbers are expressions for indices.
var numbers = []number{
	{"0", num(1, 0), 0},
	{"1", num(1, 1), 1},
	{"0 of 64 bits", num(64, 0), 0},
	{"3 of 40 bits", num(40, 3), 3},
	{"signed 1", signed(num(2, 1)), 1},
	{"signed 0 of a bit", signed(num(1, 0)), 0},
	{"signed -1", signed(num(2, 3)), -1},
	{"signed -1 of a bit", signed(num(1, 1)), -1},
	{"signed 7", signed(num(4, 7)), 7},
	{"signed 3 of 64 bits", signed(num(64, 3)), 3},
	{"signed least", signed(num(64, 1<<63)), -1},
	{"all bits", num(64, 1<<64-1), -1},
	{"highest bit", num(64, 1<<63), -1},
	{"1 << 32", num(64, 1<<32), -1},
	{"12", num(5, 12), 12},
	{"unknown", some(1), -1},
	{"unknown, but less than 4", api.Expr{W: 2, N: api.Bits{W: 2, V: 0, X: 2}}, -1},
	{"a bit", ref(1, 1), 1},
	{"2 bits", ref(4, 2), 3},
	{"4 bits", ref(3, 4), 15},
	{"signed bit", signed(ref(1, 1)), -1},
	{"5 bits", op(api.Resize, 5, ref(1, 1)), 31},
	{"6 bits", op(api.Resize, 6, ref(1, 1)), 63},
	{"7 bits", op(api.Resize, 7, ref(1, 1)), 127},
	{"signed 2 bits", signed(op(api.Resize, 2, ref(1, 1))), -1},
	{"31 bits", op(api.Resize, 31, ref(1, 1)), 1<<31 - 1},
	{"32 bits", op(api.Resize, 32, ref(1, 1)), -1},
	{"64 bits", op(api.Resize, 64, ref(1, 1)), -1},
	{"comparison", op(api.Eq, 1, ref(3, 4), ref(3, 4)), 1},
	{"operation of constants", op(api.And, 3, num(3, 0), num(3, 0)), 7},
	{"slice", slice(2, 1, ref(3, 4)), 3},
}

// P13.9: which numbers an index can be, in processes, targets and properties.
func TestIndex(t *testing.T) {
	for _, k := range numbers {
		for _, n := range []int{1, 2, 3, 4, 8, 13, 16, 17, 32} {
			base := built(t, head+"var v; comb ; }")
			base.Signals[6].Elems = n
			place := elem(6, 1, k.e)
			read, target, property := copyOf(base, 0), copyOf(base, 0), copyOf(base, 0)
			read.Procs[1].Body = branch(place, api.Stmt{})
			target.Procs[1].Body = set(place, num(1, 0))
			property.Props = []api.Prop{{Name: "p", From: api.Temporal{E: place}, To: api.Temporal{E: num(1, 1)}}}
			for i, d := range []api.Design{read, target, property} {
				want := []string{"index p1 v", "index p1 v", "index - v"}[i]
				if k.most >= 0 && k.most <= n-1 {
					want = ""
				}
				if got := only(says(t, d), "index"); got != want {
					t.Errorf("%s of %d elements, design %d: %s, not %s", k.what, n, i, got, want)
				}
			}
		}
	}
}

// P13.9: which numbers the second kid of a Part can be.
func TestPartPositions(t *testing.T) {
	for _, k := range numbers {
		for _, w := range []int{1, 2, 4, 5, 13, 16, 64} {
			for _, from := range []int{1, 4, 16, 64} {
				d := built(t, head+"comb { } }")
				whole := op(api.Resize, from, ref(1, 1))
				d.Procs[1].Body = branch(op(api.Part, w, whole, k.e), api.Stmt{})
				want := ""
				if k.most < 0 || k.most > from-w {
					want = "index p1 -"
				}
				if e := design.Check(d); e != api.OK {
					t.Fatalf("%s: error %d", k.what, e)
				}
				if got := only(says(t, d), "index"); got != want {
					t.Errorf("%d bits of %d from %s: %s, not %s", w, from, k.what, got, want)
				}
			}
		}
	}
}

// P13.9: indices in functions, targets and parts of other expressions.
func TestIndexPlaces(t *testing.T) {
	check(t, []row{
		{members: "function f(a) { var v [0:2]; v[0] = 0; v[1] = 0; v[2] = 0; f = v[cat(a, a)]; } wire w; assign w = f(x);", want: "index f0 v"},
		{members: "function f(a) { var v [0:3]; var u [0:1]; v[cat(a, a)] = 0; u[cat(a, a)] = 0; f = 0; } wire w; assign w = f(x);", want: "index f0 u"},
		{members: "function f([3:0] a) { f = a[a[1:0] +: 2]; } wire w; assign w = f(x);", want: "index f0 -"},
		{members: "function g([3:0] a) { g = a[a[1:0]]; } function f([3:0] a) { f = g(a[a[0] +: 2]) + a[a +: 2]; } wire w; assign w = f(x);", want: "index f1 -"},
		{members: "wire w; assign w = x[y];", want: "- -: 0 1"},
		{members: "wire w; assign w = x[x];", want: "index p1 -"},
		{members: "wire w; assign w = x[y[0] +: 1] == 1;", want: "- -: 0 1"},
		{members: "wire w; assign w = x[y +: 3] == 1;", want: "index p1 -"},
		{members: "wire v [0:2]; wire u [0:2]; assign v[0] = 0; assign v[1] = 0; assign v[2] = 0; assign u[0] = v[y]; assign u[1] = u[2]; assign u[2] = v[v[1]];", want: "index p4 v, index p6 v"},
		{members: "var v [0:2]; comb { v[0] = 0; v[1] = 0; v[2] = 0; cat(v[0], v[y]) = 0; } property p (rise clk) v[y] -> v[1]; property r (rise clk) 1 -> [1 then (1) x[x +: 1]];", want: "index - -, index - v, index p1 v"},
		{members: "var [3:0] v; comb { v = 0; v[y +: 2] = 1; v[y[0] +: 2] = 1; }", want: "index p1 -"},
		{members: "comb case (x) { x[x]: ; }", want: "index p1 -"},
		{members: "comb casex (x) { x[x]: ; }", want: "index p1 -"},
		{members: "var v [0:3]; comb { v[0] = 0; v[1] = 0; v[2] = 0; v[3] = 0; v[x[x]] = 0; }", want: "index p1 -"},
		{members: "initial if (x[x]) ;", want: "kind p1 -, index p1 -"},
	})
}

// P13.9: divisors.
func TestDivision(t *testing.T) {
	for _, x := range []struct {
		what string
		e    api.Expr
		ok   bool
	}{
		{"1", num(4, 1), true},
		{"15", num(4, 15), true},
		{"0", num(4, 0), false},
		{"signed -1", signed(num(4, 15)), true},
		{"signed 0", signed(num(4, 0)), false},
		{"unknown", some(4), false},
		{"unknown with a 1", api.Expr{W: 4, N: api.Bits{W: 4, V: 1, X: 2}}, false},
		{"signal", ref(3, 4), false},
		{"operation", op(api.Or, 4, num(4, 1), num(4, 1)), false},
	} {
		for i := range 8 {
			e := api.Expr{Op: []int{api.Div, api.Mod}[i%2], W: 4, Signed: i/2%2 == 1, Kids: []api.Expr{num(4, 0), x.e}}
			reason := ""
			if !x.ok {
				reason = []string{"division p0 -", "division - -"}[i/4]
			}
			d := built(t, head+"}")
			if i/4 == 0 {
				d.Procs[0].Body.Args[0] = op(api.Or, 4, num(4, 1), e)
			} else {
				d.Props = []api.Prop{{Name: "p", From: api.Temporal{E: num(1, 1)}, To: api.Temporal{E: op(api.Cat, 8, num(4, 1), e)}}}
			}
			if got := only(says(t, d), "division"); got != reason {
				t.Errorf("%s, %d: %s, not %s", x.what, i, got, reason)
			}
		}
	}
	check(t, []row{
		{members: "var v [0:3]; comb { v[0] = 0; v[1] = 0; v[2] = 0; v[3] = 0; v[y / y] = 1; }", want: "division p1 -"},
		{members: "var v [0:3]; comb { v[0] = 0; v[1] = 0; v[2] = 0; v[3] = 0; v[y % 2'd3] = 1; }", want: "- -: 0 1"},
		{members: "comb if (x / 0) ; initial if (x % y) ;", want: "kind p2 -, division p1 -, division p2 -"},
		{members: "function f([3:0] a) { f = a / 0; } wire w; assign w = f(x);", want: "division f0 -"},
		{members: "function f([3:0] a) { f = a % a; } function g([3:0] a) { g = a + f(a) / 2'd2; } wire w; assign w = g(x);", want: "division f0 -"},
		{members: "comb case (x) { x / 5: ; x % x: ; }", want: "division p1 -"},
		{members: "comb case (x) { x / 5: ; x % 3: ; }", want: "- -: 0 1"},
	})
}

// P13.11, P13.12, Z3: designs that are not valid.
func TestErrors(t *testing.T) {
	good := built(t, head+"function f(a) { f = a; } var v = 0; seq (rise clk) v <= f(x); property p (rise clk) 1 -> 1; }")
	for _, x := range []struct {
		what   string
		change func(d *api.Design)
		want   api.Errno
	}{
		{"no name", func(d *api.Design) { d.Name = "" }, api.ErrName},
		{"signals", func(d *api.Design) { d.Signals = make([]api.Signal, api.MaxSignals+1) }, api.ErrLarge},
		{"width", func(d *api.Design) { d.Signals[2].W = 65 }, api.ErrRange},
		{"kind of a process", func(d *api.Design) { d.Procs[1].Kind = 5 }, api.ErrRange},
		{"edges", func(d *api.Design) { d.Procs[1].Edges = nil }, api.ErrForm},
		{"target", func(d *api.Design) { d.Procs[1].Body.To = ref(0, 1) }, api.ErrType},
		{"clock", func(d *api.Design) { d.Props[0].Clock = 99 }, api.ErrNone},
		{"function", func(d *api.Design) { d.Funcs[0].Body = put(local(ref(1, 1)), num(1, 0)) }, api.ErrType},
		{"twice", func(d *api.Design) { d.Props = append(d.Props, d.Props[0]) }, api.ErrTwice},
		{"loop", func(d *api.Design) { d.Funcs[0].Body = set(local(ref(1, 1)), op(api.Call, 1, local(ref(0, 1)))) }, api.ErrLoop},
		{"constant", func(d *api.Design) { d.Procs[0].Body.To = slice(4, 0, elem(5, 4, ref(3, 4))) }, api.ErrConst},
		{"widths", func(d *api.Design) { d.Procs[0].Body.Args[0] = ref(4, 2) }, api.ErrWidth},
	} {
		d := copyOf(good, 0)
		x.change(&d)
		r, e := lint.Accept(d)
		if e != x.want || r.OK || r.Clock != 0 || r.Reset != 0 || len(r.Reasons) > 0 || len(r.Order) > 0 {
			t.Errorf("%s: %v, error %d, not %d", x.what, r, e, x.want)
		}
		if l := lint.Registers(d); len(l) > 0 {
			t.Errorf("%s: %v", x.what, l)
		}
	}
	if r, e := lint.Accept(good); !r.OK || e != api.OK || len(lint.Registers(good)) != 1 {
		t.Error(r, e)
	}
	if r, e := lint.Accept(api.Design{Name: "d"}); !r.OK || e != api.OK || r.Clock != -1 || r.Reset != -1 {
		t.Error(r, e)
	}
}
