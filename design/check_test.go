package design

import (
	"strings"
	"testing"

	"maskwright/api"
)

// P8.3: the steps of Check, in order.
func TestOrderOfSteps(t *testing.T) {
	deep := func(n int) api.Stmt {
		s := api.Stmt{}
		for range n - 1 {
			s = block(s)
		}
		return s
	}
	checkFaults(t, base, []fault{
		{"no name", func(d *api.Design) { d.Name = "a.b" }, api.ErrName},
		{"too deep", func(d *api.Design) { d.Funcs[0].Body = deep(api.MaxDeep + 1) }, api.ErrLarge},
		{"bad signal", func(d *api.Design) { d.Signals[0].Name = "" }, api.ErrName},
		{"the next bad signal", func(d *api.Design) { d.Signals[7].Name = "v" }, api.ErrTwice},
		{"too many bits of ports", func(d *api.Design) {
			d.Signals = append(d.Signals, api.Signal{Name: "z1", W: 64, Elems: 1, Port: api.In}, api.Signal{Name: "z2", W: 33, Elems: 1, Port: api.In})
		}, api.ErrLarge},
		{"name of a function", func(d *api.Design) { d.Funcs[0].Name = "a." }, api.ErrName},
		{"Args", func(d *api.Design) { d.Funcs[0].Args = 3 }, api.ErrRange},
		{"variable", func(d *api.Design) { d.Funcs[0].Vars[0].Kind = api.Wire }, api.ErrForm},
		{"the next variable", func(d *api.Design) { d.Funcs[0].Vars[1].W = 0 }, api.ErrRange},
		{"body of a function", func(d *api.Design) { d.Funcs[0].Body.To.Sig = 5 }, api.ErrNone},
		{"two functions of the same name", func(d *api.Design) { d.Funcs[1].Name = "f" }, api.ErrTwice},
		{"name of a process", func(d *api.Design) { d.Procs[1].Name = "" }, api.ErrName},
		{"kind of a process", func(d *api.Design) { d.Procs[1].Kind = 5 }, api.ErrRange},
		{"body of a process", func(d *api.Design) { d.Procs[1].Body.Line = -1 }, api.ErrRange},
		{"edges of a process", func(d *api.Design) { d.Procs[2].Edges = nil }, api.ErrForm},
		{"signal of an edge", func(d *api.Design) { d.Procs[2].Edges[0].Sig = sigM }, api.ErrType},
		{"another body", func(d *api.Design) { d.Procs[2].Body.Op = 99 }, api.ErrRange},
		{"name of a property", func(d *api.Design) { d.Props[0].Name = "[]" }, api.ErrName},
		{"line of a property", func(d *api.Design) { d.Props[0].Line = -1 }, api.ErrRange},
		{"no clock", func(d *api.Design) { d.Props[0].Clock = len(d.Signals) }, api.ErrNone},
		{"From", func(d *api.Design) { d.Props[0].From.Hi = 1 }, api.ErrForm},
		{"To", func(d *api.Design) { d.Props[0].To.Lo = 3 }, api.ErrRange},
		{"two properties of the same name", func(d *api.Design) { d.Props[1].Name = "s0" }, api.ErrTwice},
		{"weight", func(d *api.Design) { d.Procs[4].Body = with(api.Until, heavy(d)) }, api.ErrLarge},
	})
}

// heavy adds functions that call each other to a design, and returns a call of the last one, which is too heavy with few nodes.
func heavy(d *api.Design) api.Expr {
	for i := 2; i < 6; i++ {
		call := at(api.Call, 1, i-1)
		if i == 2 {
			call = num(1, 0)
		}
		result := api.Signal{Name: "r", Kind: api.Var, W: 1, Elems: 1}
		s := block(repeat(9, set(local(0, 1), call))...)
		d.Funcs = append(d.Funcs, api.Func{Name: "h" + string(rune('0'+i)), Vars: []api.Signal{result}, Body: s})
	}
	return at(api.Call, 1, 5)
}

// P8.3: names.
func TestNamesInDesigns(t *testing.T) {
	long := strings.Repeat("x", api.MaxName)
	for _, x := range []struct {
		name       string
		top, other bool
	}{
		{"", false, false}, {"a.b", false, true}, {long, true, true}, {long + "x", false, false}, {"a[1]", false, false}, {"n", true, true},
	} {
		for i, name := range []func(d *api.Design) *string{
			func(d *api.Design) *string { return &d.Name },
			func(d *api.Design) *string { return &d.Signals[3].Name },
			func(d *api.Design) *string { return &d.Funcs[1].Name },
			func(d *api.Design) *string { return &d.Funcs[1].Vars[1].Name },
			func(d *api.Design) *string { return &d.Procs[1].Name },
			func(d *api.Design) *string { return &d.Props[1].Name },
		} {
			d := base()
			*name(&d) = x.name
			want := api.ErrName
			if i == 0 && x.top || i > 0 && x.other {
				want = api.OK
			}
			if got := Check(d); got != want {
				t.Errorf("name %d is %q: %d, not %d", i, x.name, got, want)
			}
		}
	}
}

// P8.3: what can have the same name, and what cannot.
func TestSameNames(t *testing.T) {
	for _, x := range []fault{
		{"two signals", func(d *api.Design) { d.Signals[8].Name = "a" }, api.ErrTwice},
		{"two neighbours", func(d *api.Design) { d.Signals[1].Name = "a" }, api.ErrTwice},
		{"two functions", func(d *api.Design) { d.Funcs[1].Name = "f" }, api.ErrTwice},
		{"two variables", func(d *api.Design) { d.Funcs[1].Vars[2].Name = "x" }, api.ErrTwice},
		{"two properties", func(d *api.Design) { d.Props[1].Name = "s0" }, api.ErrTwice},
		{"two processes", func(d *api.Design) { d.Procs[1].Name = "p0" }, api.OK},
		{"one of each", func(d *api.Design) {
			d.Name, d.Funcs[0].Name, d.Funcs[0].Vars[0].Name, d.Procs[0].Name, d.Props[0].Name = "a", "a", "a", "a", "a"
		}, api.OK},
	} {
		d := base()
		x.change(&d)
		if e := Check(d); e != x.want {
			t.Errorf("%s: %d", x.what, e)
		}
	}
}

// P8.3: the numbers of all parts, at their limits and behind them.
func TestNumbersOfParts(t *testing.T) {
	if MaxEdges != 8 || MaxShown != 200 || MaxSpan != 64 {
		t.Error("limits of the chapter")
	}
	name := func(i int) string { return "n" + string(rune('A'+i/16)) + string(rune('a'+i%16)) }
	for _, x := range []struct {
		what  string
		limit int
		parts func(d *api.Design, n int)
	}{
		{"signals", api.MaxSignals, func(d *api.Design, n int) {
			for i := len(d.Signals); i < n; i++ {
				d.Signals = append(d.Signals, api.Signal{Name: name(i), W: 1, Elems: 1})
			}
		}},
		{"functions", api.MaxFuncs, func(d *api.Design, n int) {
			for i := len(d.Funcs); i < n; i++ {
				d.Funcs = append(d.Funcs, api.Func{Name: name(i), Vars: []api.Signal{{Name: "r", Kind: api.Var, W: 1, Elems: 1}}})
			}
		}},
		{"processes", api.MaxProcs, func(d *api.Design, n int) {
			for i := len(d.Procs); i < n; i++ {
				d.Procs = append(d.Procs, api.Proc{Name: "p", Kind: api.Initial})
			}
		}},
		{"properties", api.MaxProps, func(d *api.Design, n int) {
			for i := len(d.Props); i < n; i++ {
				p := d.Props[1]
				p.Name = name(i)
				d.Props = append(d.Props, p)
			}
		}},
		{"variables", api.MaxSignals, func(d *api.Design, n int) {
			for i := len(d.Funcs[1].Vars); i < n; i++ {
				d.Funcs[1].Vars = append(d.Funcs[1].Vars, api.Signal{Name: name(i), Kind: api.Var, W: 1, Elems: 1})
			}
		}},
		{"edges of a process", MaxEdges, func(d *api.Design, n int) { d.Procs[2].Edges = repeat(n, api.Edge{Sig: sigA}) }},
		{"edges of a statement", MaxEdges, func(d *api.Design, n int) {
			d.Procs[3].Body = api.Stmt{Op: api.On, Edges: repeat(n, api.Edge{Sig: sigA})}
		}},
		{"text of a Show", MaxShown, func(d *api.Design, n int) {
			d.Procs[3].Body = api.Stmt{Op: api.Show, Text: strings.Repeat("\x00", n)}
		}},
		{"text of a Check", MaxShown, func(d *api.Design, n int) {
			d.Procs[3].Body = api.Stmt{Op: api.Check, Args: []api.Expr{num(1, 1)}, Text: strings.Repeat("\xff", n)}
		}},
		{"ports", api.MaxPorts, func(d *api.Design, n int) {
			for i := 4; i < n; i++ {
				d.Signals = append(d.Signals, api.Signal{Name: name(i), Port: api.In + i%2, W: 1, Elems: 1})
			}
		}},
		{"bits of inputs", api.MaxPortBits, func(d *api.Design, n int) {
			d.Signals = append(d.Signals, api.Signal{Name: "i1", Port: api.In, W: 64, Elems: 1}, api.Signal{Name: "i2", Port: api.In, W: n - 64 - 5, Elems: 1})
		}},
		{"bits of outputs", api.MaxPortBits, func(d *api.Design, n int) {
			d.Signals = append(d.Signals, api.Signal{Name: "o1", Port: api.Out, W: 64, Elems: 1}, api.Signal{Name: "o2", Port: api.Out, W: n - 64 - 9, Elems: 1})
		}},
	} {
		d := base()
		x.parts(&d, x.limit)
		if e := Check(d); e != api.OK {
			t.Errorf("%d %s: %d", x.limit, x.what, e)
		}
		d = base()
		x.parts(&d, x.limit+1)
		if e := Check(d); e != api.ErrLarge {
			t.Errorf("%d %s: %d", x.limit+1, x.what, e)
		}
	}
}

// P8.4: a signal of a design.
func TestSignals(t *testing.T) {
	vec := func(w int, v uint64) api.Bits { return api.Bits{W: w, V: v} }
	for _, x := range []struct {
		what string
		s    api.Signal
		want api.Errno
	}{
		{"wire", api.Signal{W: 1, Elems: 1}, api.OK},
		{"array of wires", api.Signal{W: 64, Elems: 32, Signed: true}, api.OK},
		{"variable", api.Signal{Kind: api.Var, W: 64, Elems: 32}, api.OK},
		{"input", api.Signal{Port: api.In, W: 64, Elems: 1, Signed: true}, api.OK},
		{"output", api.Signal{Port: api.Out, W: 64, Elems: 1}, api.OK},
		{"output that is a variable", api.Signal{Port: api.Out, Kind: api.Var, W: 1, Elems: 1, Init: []api.Bits{vec(1, 1)}}, api.OK},
		{"Port -1", api.Signal{Port: -1, W: 1, Elems: 1}, api.ErrRange},
		{"Port 3", api.Signal{Port: 3, W: 1, Elems: 1}, api.ErrRange},
		{"Kind -1", api.Signal{Kind: -1, W: 1, Elems: 1}, api.ErrRange},
		{"Kind 2", api.Signal{Kind: 2, W: 1, Elems: 1}, api.ErrRange},
		{"W 0", api.Signal{W: 0, Elems: 1}, api.ErrRange},
		{"W 65", api.Signal{W: 65, Elems: 1}, api.ErrRange},
		{"Elems 0", api.Signal{W: 1, Elems: 0}, api.ErrRange},
		{"Elems 33", api.Signal{W: 1, Elems: 33}, api.ErrRange},
		{"range before form", api.Signal{Port: api.In, Kind: api.Var, W: 1, Elems: 33}, api.ErrRange},
		{"input with elements", api.Signal{Port: api.In, W: 1, Elems: 2}, api.ErrForm},
		{"output with elements", api.Signal{Port: api.Out, Kind: api.Var, W: 1, Elems: 2}, api.ErrForm},
		{"input that is a variable", api.Signal{Port: api.In, Kind: api.Var, W: 1, Elems: 1}, api.ErrForm},
		{"wire with Init", api.Signal{W: 1, Elems: 1, Init: []api.Bits{vec(1, 1)}}, api.ErrForm},
		{"empty Init", api.Signal{W: 1, Elems: 1, Init: []api.Bits{}}, api.OK},
		{"Init", api.Signal{Kind: api.Var, W: 3, Elems: 2, Init: []api.Bits{vec(3, 7), {W: 3, V: 5, X: 3}}}, api.OK},
		{"short Init", api.Signal{Kind: api.Var, W: 3, Elems: 2, Init: []api.Bits{vec(3, 7)}}, api.ErrForm},
		{"long Init", api.Signal{Kind: api.Var, W: 3, Elems: 2, Init: []api.Bits{vec(3, 7), vec(3, 7), vec(3, 7)}}, api.ErrForm},
		{"wide Init", api.Signal{Kind: api.Var, W: 3, Elems: 2, Init: []api.Bits{vec(3, 7), vec(4, 7)}}, api.ErrForm},
		{"bad Init", api.Signal{Kind: api.Var, W: 3, Elems: 2, Init: []api.Bits{vec(3, 8), vec(3, 7)}}, api.ErrForm},
		{"zero Init", api.Signal{Kind: api.Var, W: 3, Elems: 1, Init: []api.Bits{{}}}, api.ErrForm},
	} {
		d := base()
		x.s.Name = "new"
		d.Signals = append(d.Signals, x.s)
		if e := Check(d); e != x.want {
			t.Errorf("%s: %d, not %d", x.what, e, x.want)
		}
	}
	checkFaults(t, base, []fault{
		{"name", func(d *api.Design) { d.Signals[sigB].Name = "" }, api.ErrName},
		{"form", func(d *api.Design) { d.Signals[sigB].Init = repeat(2, api.Bits{}) }, api.ErrForm},
	})
	checkFaults(t, base, []fault{
		{"twice", func(d *api.Design) { d.Signals[sigB].Name = "a" }, api.ErrTwice},
		{"range", func(d *api.Design) { d.Signals[sigB].Kind = -1 }, api.ErrRange},
		{"form", func(d *api.Design) { d.Signals[sigB].Init = repeat(2, api.Bits{}) }, api.ErrForm},
	})
}

// P8.3: the variables of functions, and Args.
func TestFunctions(t *testing.T) {
	change := func(f func(f *api.Func)) api.Design {
		d := base()
		f(&d.Funcs[0])
		return d
	}
	checkRows(t, []row{
		{"no arguments", change(func(f *api.Func) { f.Args, f.Body = 0, api.Stmt{} }), api.ErrForm},
		{"Args -1", change(func(f *api.Func) { f.Args = -1 }), api.ErrRange},
		{"all variables are arguments", change(func(f *api.Func) { f.Args = 3 }), api.ErrRange},
		{"many arguments", change(func(f *api.Func) { f.Args = 100 }), api.ErrRange},
		{"nothing", change(func(f *api.Func) { *f = api.Func{Name: "f"} }), api.ErrRange},
		{"port", change(func(f *api.Func) { f.Vars[2] = api.Signal{Name: "o", Port: api.Out, Kind: api.Var, W: 1, Elems: 1} }), api.ErrForm},
		{"input", change(func(f *api.Func) { f.Vars[0].Port = api.In }), api.ErrForm},
		{"wire", change(func(f *api.Func) { f.Vars[2].Kind = api.Wire }), api.ErrForm},
		{"Init", change(func(f *api.Func) { f.Vars[1].Init = []api.Bits{{W: 4}} }), api.ErrForm},
		{"empty Init", change(func(f *api.Func) { f.Vars[1].Init = []api.Bits{} }), api.OK},
		{"bad Init", change(func(f *api.Func) { f.Vars[1].Init = []api.Bits{{}} }), api.ErrForm},
		{"argument with elements", change(func(f *api.Func) { f.Vars[0].Elems = 2 }), api.ErrForm},
		{"result with elements", change(func(f *api.Func) { f.Vars[1].Elems = 2 }), api.ErrForm},
		{"variable with elements", change(func(f *api.Func) { f.Vars[2].Elems = 32 }), api.OK},
		{"too many elements", change(func(f *api.Func) { f.Vars[2].Elems = 33 }), api.ErrRange},
		{"the same name as another function's variable", change(func(f *api.Func) { f.Vars[2].Name = "g" }), api.OK},
	})
	d := base()
	d.Funcs = append(d.Funcs, api.Func{Name: "h", Vars: []api.Signal{{Name: "r", Kind: api.Var, W: 1, Elems: 1}}, Body: set(local(0, 1), num(1, 1))})
	d.Procs[3].Body = with(api.Until, at(api.Call, 1, 2))
	checkRows(t, []row{{"a function without arguments", d, api.OK}})
}

// P8.3: kinds, lines and edges of processes.
func TestProcesses(t *testing.T) {
	change := func(kind int, f func(p *api.Proc)) api.Design {
		d := base()
		f(&d.Procs[kind])
		return d
	}
	checkRows(t, []row{
		{"kind -1", change(4, func(p *api.Proc) { p.Kind = -1 }), api.ErrRange},
		{"kind 5", change(4, func(p *api.Proc) { p.Kind = 5 }), api.ErrRange},
		{"line -1", change(4, func(p *api.Proc) { p.Line = -1 }), api.ErrRange},
		{"line 9", change(4, func(p *api.Proc) { p.Line = 9 }), api.OK},
		{"Cont that is a Block", change(0, func(p *api.Proc) { p.Body = block(p.Body) }), api.ErrForm},
		{"Cont that is a Put", change(0, func(p *api.Proc) { p.Body.Op = api.Put }), api.ErrForm},
		{"Cont with edges", change(0, func(p *api.Proc) { p.Edges = []api.Edge{{Sig: sigC}} }), api.ErrForm},
		{"Comb with edges", change(1, func(p *api.Proc) { p.Edges = []api.Edge{{Sig: sigC}} }), api.ErrForm},
		{"Seq without edges", change(2, func(p *api.Proc) { p.Edges = []api.Edge{} }), api.ErrForm},
		{"Always with edges", change(3, func(p *api.Proc) { p.Edges = []api.Edge{{Sig: sigC}} }), api.ErrForm},
		{"Initial with edges", change(4, func(p *api.Proc) { p.Edges = []api.Edge{{Sig: sigC}} }), api.ErrForm},
		{"form before edges", change(4, func(p *api.Proc) { p.Edges = []api.Edge{{Sig: -1}} }), api.ErrForm},
	})
	for kind := range kindsOf() {
		if kind != api.Cont {
			checkRows(t, []row{{"Nop", body(kind, api.Stmt{}), api.OK}})
		}
	}
}

// P8.7: edges of processes and of statements.
func TestEdges(t *testing.T) {
	for _, x := range []struct {
		what string
		g    api.Edge
		want api.Errno
	}{
		{"any", api.Edge{Kind: api.Any, Sig: sigA}, api.OK},
		{"rise", api.Edge{Kind: api.Rise, Sig: sigO}, api.OK},
		{"fall", api.Edge{Kind: api.Fall, Sig: sigT}, api.OK},
		{"kind -1", api.Edge{Kind: -1, Sig: 99}, api.ErrRange},
		{"kind 3", api.Edge{Kind: 3, Sig: sigM}, api.ErrRange},
		{"signal -1", api.Edge{Sig: -1}, api.ErrNone},
		{"signal 9", api.Edge{Sig: 9}, api.ErrNone},
		{"array", api.Edge{Sig: sigM}, api.ErrType},
		{"array of wires", api.Edge{Sig: sigB}, api.ErrType},
	} {
		d := base()
		d.Procs[2].Edges = []api.Edge{{Kind: api.Fall, Sig: sigA}, x.g}
		on := body(api.Always, api.Stmt{Op: api.On, Edges: []api.Edge{{}, x.g}})
		checkRows(t, []row{{x.what + " of a process", d, x.want}, {x.what + " of a statement", on, x.want}})
	}
}

// P8.3, P8.8: properties.
func TestProperties(t *testing.T) {
	change := func(f func(p *api.Prop)) api.Design {
		d := base()
		f(&d.Props[0])
		return d
	}
	checkRows(t, []row{
		{"line -1", change(func(p *api.Prop) { p.Line = -1 }), api.ErrRange},
		{"line 5, later", change(func(p *api.Prop) { p.Line, p.Later = 5, true }), api.OK},
		{"clock -1", change(func(p *api.Prop) { p.Clock = -1 }), api.ErrNone},
		{"clock 9", change(func(p *api.Prop) { p.Clock = 9 }), api.ErrNone},
		{"clock with bits", change(func(p *api.Prop) { p.Clock = sigQ }), api.OK},
		{"clock with elements", change(func(p *api.Prop) { p.Clock = sigM }), api.ErrType},
		{"time", change(func(p *api.Prop) { p.From = holds(op(api.Now, 64)) }), api.OK},
		{"local", change(func(p *api.Prop) { p.From = holds(local(0, 4)) }), api.ErrNone},
		{"a call", change(func(p *api.Prop) { p.To = holds(at(api.Call, 4, 0, ref(sigA, 4))) }), api.OK},
	})
}

// P8.8: sequences.
func TestSequences(t *testing.T) {
	a, bad := holds(ref(sigA, 4)), holds(ref(99, 4))
	seq := func(op, lo, hi int, kids ...api.Temporal) api.Temporal {
		return api.Temporal{Op: op, Lo: lo, Hi: hi, Kids: kids}
	}
	e := func(t api.Temporal) api.Temporal {
		t.E = num(1, 0)
		return t
	}
	for _, x := range []struct {
		what string
		t    api.Temporal
		want api.Errno
	}{
		{"operation -1", seq(-1, 0, 0), api.ErrRange},
		{"operation 5", seq(5, 0, 0), api.ErrRange},
		{"operation 5 with a bad kid", seq(5, 0, 0, bad), api.ErrNone},
		{"operation 5 with two kids and bounds", e(seq(5, 1, 2, a, a)), api.ErrRange},
		{"Holds with a kid", e(seq(api.Holds, 0, 0, a)), api.ErrForm},
		{"Holds with Lo", e(seq(api.Holds, 1, 0)), api.ErrForm},
		{"Holds with Hi", e(seq(api.Holds, 0, 1)), api.ErrForm},
		{"Holds without an expression", seq(api.Holds, 0, 0), api.ErrRange},
		{"Then with a kid", seq(api.Then, 0, 0, a), api.ErrForm},
		{"Then with two", seq(api.Then, 0, 0, a, a), api.OK},
		{"Then with three", seq(api.Then, 0, 0, a, a, a), api.ErrForm},
		{"Then with an expression", e(seq(api.Then, 0, 0, a, a)), api.ErrForm},
		{"Then from -1", seq(api.Then, -1, 0, a, a), api.ErrRange},
		{"Then from 64", seq(api.Then, 64, 64, a, a), api.OK},
		{"Then from 65", seq(api.Then, 65, 65, a, a), api.ErrRange},
		{"Then from 65 without an end", seq(api.Then, 65, -1, a, a), api.ErrRange},
		{"Then without an end", seq(api.Then, 64, -1, a, a), api.OK},
		{"Then with Hi -2", seq(api.Then, 0, -2, a, a), api.ErrRange},
		{"Then with an end too early", seq(api.Then, 2, 1, a, a), api.ErrRange},
		{"Then from 2 to 2", seq(api.Then, 2, 2, a, a), api.OK},
		{"Then to 65", seq(api.Then, 2, 65, a, a), api.ErrRange},
		{"form before range", seq(api.Then, 2, 1, a), api.ErrForm},
		{"kid before form", seq(api.Then, 2, 1, bad), api.ErrNone},
		{"first kid first", seq(api.Then, 0, 0, seq(9, 0, 0), bad), api.ErrRange},
		{"second kid", seq(api.Then, 0, 0, a, bad), api.ErrNone},
		{"Either without kids", seq(api.Either, 0, 0), api.ErrForm},
		{"Either with a kid", seq(api.Either, 0, 0, a), api.OK},
		{"Either with many kids", seq(api.Either, 0, 0, a, a, a, a, a), api.OK},
		{"Either with Lo", seq(api.Either, 1, 0, a), api.ErrForm},
		{"Either with Hi", seq(api.Either, 0, 1, a), api.ErrForm},
		{"Either with an expression", e(seq(api.Either, 0, 0, a)), api.ErrForm},
		{"Both with a kid", seq(api.Both, 0, 0, a), api.ErrForm},
		{"Both with two", seq(api.Both, 0, 0, a, a), api.OK},
		{"Both with three", seq(api.Both, 0, 0, a, a, a), api.ErrForm},
		{"Both with Hi", seq(api.Both, 0, -1, a, a), api.ErrForm},
		{"Times without kids", seq(api.Times, 0, 0), api.ErrForm},
		{"Times with a kid", seq(api.Times, 0, 0, a), api.OK},
		{"Times with two", seq(api.Times, 0, 0, a, a), api.ErrForm},
		{"Times from 3 to 64", seq(api.Times, 3, 64, a), api.OK},
		{"Times without an end", seq(api.Times, 0, -1, a), api.OK},
		{"Times to 65", seq(api.Times, 3, 65, a), api.ErrRange},
		{"Times with an expression", e(seq(api.Times, 0, 0, a)), api.ErrForm},
	} {
		from, to := base(), base()
		from.Props[0].From, to.Props[0].To = x.t, x.t
		checkRows(t, []row{{x.what, from, x.want}, {x.what, to, x.want}})
	}
	d := base()
	d.Props[0].From, d.Props[0].To = seq(9, 0, 0), bad
	checkRows(t, []row{{"From first", d, api.ErrRange}})
}
