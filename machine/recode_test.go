package machine_test

import (
	"fmt"
	"slices"
	"testing"

	"maskwright/api"
	"maskwright/design"
	"maskwright/machine"
)

// pair has members of a module that begins with the head, with the register s, and those of what it is with other codes.
type pair struct {
	from  string
	codes []uint64
	w     int
	to    string
}

// plain clears the sign of each Ref of a signal: that of the one in an Eq is free.
func plain(d api.Design, sig int) api.Design {
	d = copyOf(d, 0)
	eachNode(&d, func(x any) bool {
		if e, ok := x.(*api.Expr); ok && e.Op == api.Ref && !e.Local && e.Sig == sig {
			e.Signed = false
		}
		return true
	})
	return d
}

// checkPairs checks pairs.
func checkPairs(t *testing.T, pairs []pair) {
	t.Helper()
	for _, p := range pairs {
		d, want := built(t, head+p.from+" }"), built(t, head+p.to+" }")
		sig := index(d, "s")
		got, e := machine.Recode(d, sig, p.codes, p.w)
		if e != api.OK || !equal(plain(got, sig), plain(want, sig)) {
			t.Errorf("%s, error %d\n%v\nnot\n%v", p.from, e, got, want)
		}
	}
}

// P16.5: the register and what is put into it.
func TestRecodedPuts(t *testing.T) {
	checkPairs(t, []pair{
		{"var [1:0] s = 0; seq (rise clk) if (a) s <= 1; else s <= 0;", []uint64{5, 2}, 3,
			"var [2:0] s = 5; seq (rise clk) if (a) s <= 3'd2; else s <= 3'd5;"},
		{"var [2:0] s = 4; seq (rise clk) case (y) { 0, 1: s <= 5; 2: { ; s <= 6; } default: if (a) ; else s <= 7; }", []uint64{0, 3, 1, 2}, 2,
			"var [1:0] s = 0; seq (rise clk) case (y) { 0, 1: s <= 2'd3; 2: { ; s <= 2'd1; } default: if (a) ; else s <= 2'd2; }"},
		// The code of a number that is no state is that of the first one.
		{"var [1:0] s = 2; seq (rise clk) { s <= 3; s <= 0; if (a && !a) s <= 1; }", []uint64{6, 1}, 3,
			"var [2:0] s = 6; seq (rise clk) { s <= 3'd6; s <= 3'd1; if (a && !a) s <= 3'd6; }"},
		// As wide and as narrow as it can be.
		{"var [1:0] s = 1; seq (rise clk) if (a) s <= 3;", []uint64{1<<64 - 1, 1 << 63}, 64,
			"var [63:0] s = 64'hffffffffffffffff; seq (rise clk) if (a) s <= 64'h8000000000000000;"},
		{"var [4:0] s = 1; seq (rise clk) if (a) s <= 3;", []uint64{1, 0}, 1,
			"var s = 1; seq (rise clk) if (a) s <= 1'd0;"},
		{"var s = 1; seq (rise clk) if (a) s <= 1;", []uint64{0}, 1,
			"var s = 0; seq (rise clk) if (a) s <= 1'd0;"},
		// With the same codes all is as it was, but for the sign of the constants.
		{"var [1:0] s = 0; seq (rise clk) if (a) s <= 1; else s <= 2'd0;", []uint64{0, 1}, 2,
			"var [1:0] s = 0; seq (rise clk) if (a) s <= 2'd1; else s <= 2'd0;"},
		// Resets, and lines.
		{"var [1:0] s = 0;\nseq (rise clk, rise rst)\nif (rst) s <= 2;\nelse s <= 1;", []uint64{1, 2, 4}, 3,
			"var [2:0] s = 1;\nseq (rise clk, rise rst)\nif (rst) s <= 3'd4;\nelse s <= 3'd2;"},
		{"var [1:0] s = 0; var [2:0] n = 3; seq (rise clk, fall rst) if (!rst) { s <= 2; n <= 2; } else { s <= 1; n <= n + 1; }", []uint64{1, 2, 4}, 3,
			"var [2:0] s = 1; var [2:0] n = 3; seq (rise clk, fall rst) if (!rst) { s <= 3'd4; n <= 2; } else { s <= 3'd2; n <= n + 1; }"},
	})
}

// P16.5: choices in place of the register, wherever it is read.
func TestRecodedReads(t *testing.T) {
	const (
		from = "var [1:0] s = 1; seq (rise clk) if (a) s <= 3; else s <= 0; "
		to   = "var [2:0] s = 1; seq (rise clk) if (a) s <= 3'd4; else s <= 3'd2; "
		it   = "(s == 3'd2 ? 2'd0 : s == 3'd4 ? 2'd3 : 2'd1)"
	)
	codes := []uint64{1, 2, 4}
	var pairs []pair
	for _, x := range []string{
		"wire [1:0] w; assign w = %s;",
		"wire [1:0] w; assign w = %[1]s & (%[1]s ^ y[1:0]);",
		"wire w; assign w = %s == 2'd3;",
		"wire w; assign w = a ? %[1]s > y[1:0] : ^%[1]s;",
		"wire [3:0] w; assign w = cat(%[1]s, %[1]s);",
		"wire [3:0] w; assign w = y << %s;",
		"wire w; assign w = y[%s];",
		"wire w; assign w = y[%s +: 1];",
		"wire w [0:3]; assign w[0] = 1; assign w[1] = a; assign w[2] = 0; assign w[3] = a; wire v; assign v = w[%s];",
		"var [1:0] v; comb { v = %s; v[0] = v[1]; }",
		"var [3:0] v; comb { v = 0; v[%s] = a; }",
		"var v; comb if (%s) v = 1; else v = 0;",
		"var v; comb { if (a) v = 1; else { v = 0; if (%s) v = 1; } }",
		"var v; comb case (%s) { 2'd0: v = 1; 2'd1, 2'd2: v = 0; 2'd3: v = 0; }",
		"var v; comb { v = 0; case (y[1:0]) { %[1]s, 2'd1: v = 1; 2'd2: if (%[1]s) v = 1; } }",
		"var v; comb { v = 0; casez (y[1:0]) { 2'b1z: ; %s: v = 1; } }",
		"var [1:0] v = 0; seq (rise clk) v <= %s;",
		"var v [0:3] = 0; seq (rise clk) v[%[1]s] <= %[1]s == 2'd2;",
		"var [3:0] v = 0; seq (rise clk) { v[%[1]s +: 1] <= a; v[%[1]s] <= b; }",
		"var v [0:3] = 0; var u = 0; seq (rise clk) cat(u, v[%s]) <= y[1:0];",
		"var [1:0] v = 0, u; seq (rise clk) { u = %s; v <= ~u; }",
		"function f([1:0] v) { f = v[0] ^ v[1]; } wire w; assign w = f(%s);",
		"function f(c, d, e, g, h, i, j, k) { f = k; k = c; } wire w; assign w = f(a, a, a, a, a, a, a, b);",
		"property p (rise clk) %s -> a;",
		"property p (rise clk) a => %s == 2'd3;",
		"property p (rise clk) [a or [b then (1) [%[1]s and a]]] times (2) -> [%[1]s then (0:3) a];\nproperty r (rise clk) 1 -> %[1]s;",
		"wire [1:0] w; assign w = y;",
	} {
		p := pair{from + x, codes, 3, to + x}
		if slices.Contains([]byte(x), '%') {
			p.from, p.to = from+fmt.Sprintf(x, "s"), to+fmt.Sprintf(x, it)
		}
		pairs = append(pairs, p)
	}
	checkPairs(t, pairs)
	checkPairs(t, []pair{
		// Two states, and one.
		{"var s = 1; seq (rise clk) if (!s) s <= 1; else s <= 0; wire w; assign w = s;", []uint64{3, 9}, 4,
			"var [3:0] s = 3; seq (rise clk) if (!(s == 4'd9 ? 1'd0 : 1'd1)) s <= 4'd3; else s <= 4'd9; wire w; assign w = s == 4'd9 ? 1'd0 : 1'd1;"},
		{"var [1:0] s = 2; seq (rise clk) if (s == 2'd2) s <= 2; else s <= 1; wire [1:0] w; assign w = s;", []uint64{1}, 1,
			"var s = 1; seq (rise clk) if (2'd2 == 2'd2) s <= 1'd1; else s <= 1'd1; wire [1:0] w; assign w = 2'd2;"},
		// What it was was signed.
		{"var signed [1:0] s = -1; seq (rise clk) if (a) s <= 1; wire signed [1:0] w; assign w = s; wire v; assign v = s < 2'sd0;", []uint64{4, 2}, 3,
			"var signed [2:0] s = 4; seq (rise clk) if (a) s <= 3'd2; wire signed [1:0] w; assign w = s == 3'd2 ? 2'sd1 : 2'sd3; wire v; assign v = (s == 3'd2 ? 2'sd1 : 2'sd3) < 2'sd0;"},
		// Other registers keep their codes.
		{"var [1:0] r = 0, s = 0, u = 0; seq (rise clk) { if (a) r <= 2; if (r == 2'd2) s <= 3; if (s == 2'd3) u <= 1; }", []uint64{1, 0}, 2,
			"var [1:0] r = 0, s = 1, u = 0; seq (rise clk) { if (a) r <= 2; if (r == 2'd2) s <= 2'd0; if ((s == 2'd0 ? 2'd3 : 2'd0) == 2'd3) u <= 1; }"},
	})
}

// P16.5: bits of the register, and the register as an element of an array.
func TestRecodedPieces(t *testing.T) {
	d := built(t, head+"var [1:0] s = 1; seq (rise clk) if (a) s <= 2; wire w; assign w = s[1]; }")
	choice := func() api.Expr {
		return op(api.Cond, 2, op(api.Eq, 1, ref(7, 4), num(4, 8)), num(2, 2), num(2, 1))
	}
	part := func(e api.Expr) api.Expr { return op(api.Part, 1, e, slice(1, 0, e)) }
	for i, x := range []struct{ from, to api.Expr }{
		{slice(1, 1, ref(7, 2)), slice(1, 1, choice())},
		{slice(1, 0, slice(2, 0, ref(7, 2))), slice(1, 0, slice(2, 0, choice()))},
		{slice(1, 1, elem(7, 2, num(3, 0))), slice(1, 1, choice())},
		{op(api.Part, 1, ref(7, 2), num(1, 1)), op(api.Part, 1, choice(), num(1, 1))},
		{part(ref(7, 2)), part(choice())},
		{part(elem(7, 2, num(64, 0))), part(choice())},
		{op(api.RedXor, 1, elem(7, 2, num(1, 0))), op(api.RedXor, 1, choice())},
		{op(api.Part, 1, ref(5, 4), elem(7, 2, num(1, 0))), op(api.Part, 1, ref(5, 4), choice())},
		{op(api.LNot, 1, api.Expr{Op: api.Resize, W: 9, Signed: true, Kids: []api.Expr{ref(7, 2)}}), op(api.LNot, 1, api.Expr{Op: api.Resize, W: 9, Signed: true, Kids: []api.Expr{choice()}})},
	} {
		from := copyOf(d, 0)
		from.Procs[2].Body.Args[0] = x.from
		got, e := machine.Recode(from, 7, []uint64{0, 8}, 4)
		if e != api.OK || !equal(got.Procs[2].Body.Args[0], x.to) {
			t.Errorf("%d: %v, error %d", i, got, e)
		}
	}
}

// full returns a design with a register s of 2 bits that has the states 0, 1 and 3, an output o that is a machine, too, and other registers, so that there is room for 4 bits of s.
func full(t *testing.T) api.Design {
	t.Helper()
	return built(t, "module top (in clk, in a, in b, out q, out var o = 0) {\n"+
		"var [1:0] s = 0; var [63:0] r [0:2] = 0; var [56:0] u = 0; var [1:0] n = 0; var v;\n"+
		"seq (rise clk) { if (a) s <= 1; else if (b) s <= 3; if (a) o <= 1; u <= 5; n <= s; r[0] <= 1; }\n"+
		"assign q = s == 2'd1; comb v = 0; }")
}

// The signals of what full returns.
const (
	outSig   = 4
	stateSig = 5
	otherSig = 8
)

// fault is something that is wrong with the arguments of Recode.
type fault struct {
	what string
	make func(c *call)
	want api.Errno
}

// call has arguments of Recode.
type call struct {
	d     api.Design
	sig   int
	codes []uint64
	w     int
}

// faults are in the order in which they are found.
var faults = []fault{
	{"no name", func(c *call) { c.d.Name = "" }, api.ErrName},
	{"not accepted", func(c *call) { c.d.Signals[stateSig].Init = nil }, api.ErrState},
	{"no machine", func(c *call) {
		s := &c.d.Procs[0].Body.Kids[0].Kids[0]
		s.Args[0] = op(api.Not, 2, s.Args[0])
	}, api.ErrNone},
	{"a port", func(c *call) { c.d.Signals[stateSig].Port = api.Out }, api.ErrType},
	{"no bits", func(c *call) { c.w = 0 }, api.ErrRange},
	{"a code too few", func(c *call) { c.codes = c.codes[:len(c.codes)-1] }, api.ErrForm},
	{"a wide code", func(c *call) { c.codes[0] = 1 << 60 }, api.ErrRange},
	{"a code twice", func(c *call) { c.codes[1] = c.codes[0] }, api.ErrTwice},
	{"too deep", func(c *call) { deepen(&c.d, 37) }, api.ErrLarge},
	{"too many bits", func(c *call) {
		c.d.Signals = append(c.d.Signals, api.Signal{Name: "more", Kind: api.Var, W: 1, Elems: 1, Init: []api.Bits{{W: 1}}})
		s := api.Stmt{Op: api.Put, To: ref(len(c.d.Signals)-1, 1), Args: []api.Expr{num(1, 0)}}
		c.d.Procs = append(c.d.Procs, api.Proc{Name: "more", Kind: api.Seq, Edges: []api.Edge{{Kind: api.Rise}}, Body: s})
	}, api.ErrLarge},
}

// deepen makes the value of q some levels deeper.
func deepen(d *api.Design, levels int) {
	for range levels {
		d.Procs[1].Body.Args[0] = op(api.Not, 1, d.Procs[1].Body.Args[0])
	}
}

// P16.5, Z3: each error alone, and with each one that comes later.
func TestRecodeErrors(t *testing.T) {
	good := func() call { return call{full(t), stateSig, []uint64{1, 2, 0}, 4} }
	run := func(c call) api.Errno {
		d, e := machine.Recode(c.d, c.sig, c.codes, c.w)
		if e != api.OK && !equal(d, api.Design{}) {
			t.Errorf("error %d: %v", e, d)
		}
		return e
	}
	if e := run(good()); e != api.OK {
		t.Fatal(e)
	}
	for i, a := range faults {
		c := good()
		a.make(&c)
		if e := run(c); e != a.want {
			t.Errorf("%s: error %d, not %d", a.what, e, a.want)
		}
		for _, b := range faults[i+1:] {
			c := good()
			a.make(&c)
			b.make(&c)
			if e := run(c); e != a.want {
				t.Errorf("%s, %s: error %d, not %d", a.what, b.what, e, a.want)
			}
		}
	}
}

// P16.5: which registers, widths and codes there can be.
func TestRecodeArguments(t *testing.T) {
	d := full(t)
	for sig := -3; sig < len(d.Signals)+3; sig++ {
		want := api.ErrNone
		switch sig {
		case stateSig:
			want = api.OK
		case outSig:
			want = api.ErrType
		}
		if _, e := machine.Recode(d, sig, []uint64{1, 2, 0}, 2); e != want {
			t.Error(sig, e)
		}
	}
	for i, x := range []struct {
		sig   int
		codes []uint64
		w     int
		want  api.Errno
	}{
		{stateSig, []uint64{1, 2, 0}, 2, api.OK},
		{stateSig, []uint64{3, 0, 1}, 2, api.OK},
		{stateSig, []uint64{1, 2, 0}, -1, api.ErrRange},
		{stateSig, []uint64{1, 2, 0}, -1 << 63, api.ErrRange},
		{stateSig, []uint64{1, 2, 0}, 65, api.ErrRange},
		{stateSig, []uint64{1, 2, 0}, 1<<63 - 1, api.ErrRange},
		{stateSig, nil, 0, api.ErrRange},
		{stateSig, nil, 2, api.ErrForm},
		{stateSig, []uint64{1, 2}, 2, api.ErrForm},
		{stateSig, []uint64{1, 2, 0, 3}, 2, api.ErrForm},
		{stateSig, []uint64{4, 4, 4, 4}, 2, api.ErrForm},
		{stateSig, []uint64{1, 2, 4}, 2, api.ErrRange},
		{stateSig, []uint64{1, 2, 1 << 63}, 2, api.ErrRange},
		{stateSig, []uint64{1, 1, 4}, 2, api.ErrTwice},
		{stateSig, []uint64{1, 4, 4}, 2, api.ErrRange},
		{stateSig, []uint64{4, 1, 1}, 2, api.ErrRange},
		{stateSig, []uint64{3, 2, 3}, 2, api.ErrTwice},
		{stateSig, []uint64{0, 1, 0}, 1, api.ErrTwice},
		{stateSig, []uint64{0, 1, 2}, 1, api.ErrRange},
		{outSig, nil, 99, api.ErrType},
		{otherSig, nil, 99, api.ErrNone},
		{-1 << 63, nil, 99, api.ErrNone},
		{1 << 62, nil, 99, api.ErrNone},
	} {
		if _, e := machine.Recode(d, x.sig, x.codes, x.w); e != x.want {
			t.Errorf("%d: error %d, not %d", i, e, x.want)
		}
	}
	// No code is too wide for 64 bits.
	small := built(t, head+"var s = 0; seq (rise clk) if (a) s <= 1; }")
	if d, e := machine.Recode(small, 7, []uint64{0, 1<<64 - 1}, 64); e != api.OK || d.Signals[7].W != 64 {
		t.Error(d, e)
	}
}

// recodes returns the error of a recoding of s with w bits.
func recodes(d api.Design, w int) api.Errno {
	_, e := machine.Recode(d, stateSig, []uint64{1, 2, 0}, w)
	return e
}

// P16.5: how many bits all registers can have.
func TestTooManyBits(t *testing.T) {
	for w, want := range map[int]api.Errno{2: api.OK, 3: api.OK, 4: api.OK, 5: api.ErrLarge, 6: api.ErrLarge, 64: api.ErrLarge} {
		if e := recodes(full(t), w); e != want {
			t.Errorf("%d bits: error %d, not %d", w, e, want)
		}
	}
}

// P16.5: how many levels there can be.
func TestTooDeep(t *testing.T) {
	for levels := range 38 {
		d := full(t)
		deepen(&d, levels)
		// A Set and the Eq; two Conds, an Eq and a Ref in place of the Ref that was there.
		want := api.OK
		if levels+2+4 > api.MaxDeep {
			want = api.ErrLarge
		}
		if e := recodes(d, 2); e != want || design.Check(d) != api.OK {
			t.Errorf("%d levels: error %d, not %d", levels, e, want)
		}
	}
}

// nodes returns the number of statements and expressions in a design.
func nodes(d api.Design) int {
	n := 0
	eachNode(&d, func(x any) bool {
		switch x := x.(type) {
		case *api.Stmt:
			n++
		case *api.Expr:
			if x.W > 0 {
				n++
			}
		}
		return true
	})
	return n
}

// P16.5: how many nodes there can be.
func TestTooManyNodes(t *testing.T) {
	look := api.Stmt{Op: api.If, Args: []api.Expr{ref(stateSig, 2)}, Kids: []api.Stmt{{}}}
	with := func(reads int) api.Design {
		d := full(t)
		d.Procs[2].Body = api.Stmt{Op: api.Block, Kids: append(slices.Repeat([]api.Stmt{look}, reads), d.Procs[2].Body)}
		return d
	}
	small, e := machine.Recode(with(0), stateSig, []uint64{1, 2, 0}, 2)
	if e != api.OK {
		t.Fatal(e)
	}
	// Two Conds, each with an Eq, its kids, and a state, and the first state, in an If with a Nop.
	most := (api.MaxTree - nodes(small)) / (11 + 2)
	for reads, want := range map[int]api.Errno{most - 1: api.OK, most: api.OK, most + 1: api.ErrLarge, most + 2: api.ErrLarge, 4 * most: api.ErrLarge} {
		d := with(reads)
		if e := recodes(d, 2); e != want || design.Check(d) != api.OK {
			t.Errorf("%d reads: error %d, not %d", reads, e, want)
		}
	}
}

// P16.5: how much weight there can be.
func TestTooHeavy(t *testing.T) {
	d := full(t)
	f := api.Func{Name: "f", Vars: []api.Signal{{Name: "f", Kind: api.Var, W: 1, Elems: 1}}, Body: api.Stmt{Op: api.Block}}
	for range 100 {
		f.Body.Kids = append(f.Body.Kids, api.Stmt{Op: api.Set, To: api.Expr{Op: api.Ref, W: 1, Local: true}, Args: []api.Expr{num(1, 0)}})
	}
	d.Funcs = []api.Func{f}
	body := &d.Procs[2].Body
	*body = api.Stmt{Op: api.Block, Kids: []api.Stmt{*body}}
	add := func(e api.Expr) {
		body.Kids = append(body.Kids, api.Stmt{Op: api.If, Args: []api.Expr{e}, Kids: []api.Stmt{{}}})
	}
	add(ref(stateSig, 2))
	for {
		before := slices.Clone(body.Kids)
		add(op(api.Call, 1))
		if design.Check(d) != api.OK {
			body.Kids = before
			break
		}
	}
	// A read becomes 10 nodes heavier.
	for design.Weight(d, 2)+10 <= api.MaxWeight {
		body.Kids = append(body.Kids, api.Stmt{})
	}
	if e := recodes(d, 2); e != api.ErrLarge || nodes(d) > api.MaxTree/2 {
		t.Error(e, nodes(d))
	}
	body.Kids = body.Kids[:len(body.Kids)-1]
	if e := recodes(d, 2); e != api.OK {
		t.Error(e)
	}
}
