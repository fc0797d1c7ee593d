package design

import (
	"strings"
	"testing"

	"maskwright/api"
	"maskwright/walk"
)

// names of the operations of statements, in order.
const stmtNames = "Nop Block If Case While Repeat Set Put Delay On Until Show Check Stop"

// stmtSamples has a valid statement for each operation, in a process that can wait.
func stmtSamples() []api.Stmt {
	a, nop := ref(sigA, 4), api.Stmt{}
	kid := func(op int, kids ...api.Stmt) api.Stmt { return api.Stmt{Op: op, Args: []api.Expr{a}, Kids: kids} }
	return []api.Stmt{
		nop, block(nop, nop), kid(api.If, nop, nop),
		{Op: api.Case, Args: []api.Expr{a}, Items: []api.Item{{Match: []api.Expr{num(4, 1)}}, {}}, Kind: api.WildX},
		kid(api.While, nop), kid(api.Repeat, nop), set(ref(sigV, 4), a), put(ref(sigV, 4), a), with(api.Delay, a),
		{Op: api.On, Edges: []api.Edge{{Kind: api.Fall, Sig: sigA}}}, with(api.Until, a),
		{Op: api.Show, Args: []api.Expr{a, a, a}, Text: "t", Kind: api.Monitor},
		{Op: api.Check, Args: []api.Expr{a}, Text: "t"}, {Op: api.Stop},
	}
}

// P8.6: a valid statement of each operation in each kind of process, and in a function.
func TestWhereStatementsStand(t *testing.T) {
	late := func(op int) api.Stmt {
		return api.Stmt{Op: op, To: ref(sigV, 4), Args: []api.Expr{ref(sigA, 4), num(3, 1)}}
	}
	names := append(strings.Fields(stmtNames), "lateSet", "latePut")
	list := append(stmtSamples(), late(api.Set), late(api.Put))
	if len(list) != api.Stop+3 {
		t.Fatal("not one sample for each operation")
	}
	for i, s := range list {
		name := " " + names[i] + " "
		for _, kind := range kindsOf()[1:] {
			want := api.OK
			if kind < api.Always && strings.Contains(" Delay On Until lateSet ", name) {
				want = api.ErrType
			}
			checkRows(t, []row{{names[i], body(kind, s), want}, {names[i] + " in a block", body(kind, block(s)), want}})
			if kind == api.Comb || kind == api.Initial {
				if e := CheckStmt(base(), s, kind == api.Initial); e != want {
					t.Errorf("CheckStmt: %s: %d", names[i], e)
				}
			}
		}
		s = localized(s)
		want := api.OK
		if strings.Contains(" Put Delay On Until Show Check Stop lateSet latePut ", name) {
			want = api.ErrType
		}
		checkRows(t, []row{{names[i] + " in a function", inFunc(s), want}})
	}
	checkRows(t, []row{{"late Set in a Cont", body(api.Cont, api.Stmt{Op: api.Set, To: ref(sigW, 4), Args: repeat(2, ref(sigA, 4))}), api.ErrType}})
}

// localized returns a statement with a variable of the second function in place of signals.
func localized(s api.Stmt) api.Stmt {
	s.Args = append([]api.Expr{}, s.Args...)
	for i := range s.Args {
		if s.Args[i].Op == api.Ref {
			s.Args[i] = local(0, 4)
		}
	}
	if walk.Assigns(s) {
		s.To = local(0, 4)
	}
	return s
}

// P8.6: operations that there are not, and lines.
func TestRangesOfStatements(t *testing.T) {
	for _, n := range []int{-1, api.Stop + 1, 99} {
		checkRows(t, []row{
			{"no operation", body(api.Initial, api.Stmt{Op: n}), api.ErrRange},
			{"no operation, with other fields", body(api.Initial, api.Stmt{Op: n, Args: repeat(1, ref(99, 1)), Text: strings.Repeat("x", 201)}), api.ErrRange},
		})
	}
	for i, s := range stmtSamples() {
		name := strings.Fields(stmtNames)[i]
		s.Line = 7
		checkRows(t, []row{{name + " with a line", body(api.Initial, s), api.OK}})
		s.Line = -1
		checkRows(t, []row{{name + " with a negative line", body(api.Initial, s), api.ErrRange}})
	}
}

// P8.6: the numbers of Args and Kids, and fields that are not used.
func TestShapesOfStatements(t *testing.T) {
	args := map[string]string{"If": "1", "While": "1", "Repeat": "1", "Case": "1", "Set": "12", "Put": "12", "Delay": "1", "Until": "1", "Show": "0123", "Check": "1"}
	kids := map[string]string{"If": "12", "While": "1", "Repeat": "1", "Block": "0123"}
	fields := map[string]string{"Case": "IK", "Set": "T", "Put": "T", "On": "E", "Show": "XK", "Check": "X"}
	or := func(s, other string) string {
		if s == "" {
			return other
		}
		return s
	}
	for i, s := range stmtSamples() {
		name := strings.Fields(stmtNames)[i]
		expect := func(what string, s api.Stmt, form bool) {
			t.Helper()
			if got := Check(body(api.Initial, s)); (got == api.ErrForm) != form || !form && got != api.OK {
				t.Errorf("%s with %s: %d", name, what, got)
			}
		}
		for n := range 4 {
			digit := string(rune('0' + n))
			x := s
			x.Args = repeat(n, ref(sigA, 4))
			expect(digit+" Args", x, !strings.Contains(or(args[name], "0"), digit))
			x = s
			x.Kids = make([]api.Stmt, n)
			expect(digit+" Kids", x, !strings.Contains(or(kids[name], "0"), digit))
		}
		for letter, change := range map[string]func(s *api.Stmt){
			"T": func(s *api.Stmt) { s.To = ref(sigV, 4) },
			"I": func(s *api.Stmt) { s.Items = []api.Item{{}} },
			"K": func(s *api.Stmt) { s.Kind = 1 },
			"E": func(s *api.Stmt) { s.Edges = []api.Edge{{}} },
			"X": func(s *api.Stmt) { s.Text = "x" },
		} {
			x := s
			change(&x)
			expect(letter, x, !strings.Contains(fields[name], letter))
		}
	}
}

// P8.6: a target that is not used is one if any of its fields is not zero.
func TestTargetsThatAreNotUsed(t *testing.T) {
	for i, to := range []api.Expr{{Op: 1}, {W: 1}, {Signed: true}, {N: api.Bits{X: 1}}, {Sig: -1}, {Local: true}, {At: 1}, {Kids: make([]api.Expr, 1)}} {
		checkRows(t, []row{{"field " + string(rune('0'+i)), body(api.Initial, api.Stmt{To: to}), api.ErrForm}})
	}
	checkRows(t, []row{{"empty Kids", body(api.Initial, api.Stmt{To: api.Expr{Kids: []api.Expr{}}}), api.OK}})
}

// P8.6: the order of the errors of a statement.
func TestOrderInStatements(t *testing.T) {
	bad, long := ref(99, 4), strings.Repeat("x", MaxShown+1)
	edges := repeat(MaxEdges+1, api.Edge{Kind: 9})
	item := func(do api.Stmt, match ...api.Expr) api.Item { return api.Item{Match: match, Do: do} }
	choice := func(subject api.Expr, kind int, items ...api.Item) api.Stmt {
		return api.Stmt{Op: api.Case, Kind: kind, Args: []api.Expr{subject}, Items: items}
	}
	a, nop, wrong := ref(sigA, 4), api.Stmt{}, api.Stmt{Op: -1}
	rows := []struct {
		what  string
		s     api.Stmt
		waits bool
		want  api.Errno
	}{
		{"form before large", api.Stmt{Op: api.Check, Text: long}, true, api.ErrForm},
		{"large before type", api.Stmt{Op: api.On, Edges: edges}, false, api.ErrLarge},
		{"large before Args", api.Stmt{Op: api.Show, Args: repeat(1, bad), Text: long}, false, api.ErrLarge},
		{"edges", api.Stmt{Op: api.On, Edges: edges[:1]}, true, api.ErrRange},
		{"type before edges", api.Stmt{Op: api.On, Edges: edges[:1]}, false, api.ErrType},
		{"type before Args", with(api.Delay, bad), false, api.ErrType},
		{"Args in order", with(api.Show, ref(sigM, 4), bad), true, api.ErrType},
		{"Args before Kind", choice(bad, 9), true, api.ErrNone},
		{"Args before To", set(ref(sigM, 4), bad), true, api.ErrNone},
		{"To", set(ref(sigM, 4), a), true, api.ErrType},
		{"To as an expression before it is a target", set(op(api.Not, 4, bad), a), true, api.ErrNone},
		{"target before the widths", set(num(5, 0), a), true, api.ErrForm},
		{"widths", set(ref(sigQ, 8), a), true, api.ErrWidth},
		{"widths of a Put", put(ref(sigQ, 8), a), true, api.ErrWidth},
		{"width of the second of the Args", api.Stmt{Op: api.Put, To: ref(sigV, 4), Args: []api.Expr{a, num(64, 1)}}, false, api.OK},
		{"second of the Args", api.Stmt{Op: api.Put, To: ref(sigM, 4), Args: []api.Expr{a, bad}}, false, api.ErrNone},
		{"Kind -1 of a Case", choice(a, -1), true, api.ErrRange},
		{"Kind 2 of a Case", choice(a, api.WildX), false, api.OK},
		{"Kind 3 of a Case", choice(a, api.WildX+1), true, api.ErrRange},
		{"Kind -1 of a Show", api.Stmt{Op: api.Show, Kind: -1}, true, api.ErrRange},
		{"Kind 3 of a Show", api.Stmt{Op: api.Show, Kind: api.Monitor}, false, api.OK},
		{"Kind 4 of a Show", api.Stmt{Op: api.Show, Kind: api.Monitor + 1}, true, api.ErrRange},
		{"Kind before items", choice(a, 3, item(wrong, bad)), true, api.ErrRange},
		{"Args before Kids", api.Stmt{Op: api.While, Args: repeat(1, bad), Kids: repeat(1, wrong)}, true, api.ErrNone},
		{"Kids in order", block(nop, set(ref(sigM, 4), a), wrong), true, api.ErrType},
		{"second branch", api.Stmt{Op: api.If, Args: repeat(1, a), Kids: []api.Stmt{nop, wrong}}, true, api.ErrRange},
		{"Match", choice(a, 0, item(nop, num(4, 1), bad)), true, api.ErrNone},
		{"width of the first Match", choice(a, 0, item(nop, num(5, 1), bad)), true, api.ErrWidth},
		{"width of a Match", choice(a, 0, item(nop, num(4, 1), num(3, 1))), true, api.ErrWidth},
		{"Match before Do", choice(a, 0, item(wrong, num(4, 1), num(3, 1))), true, api.ErrWidth},
		{"Do", choice(a, 0, item(wrong, num(4, 1)), item(nop, bad)), true, api.ErrRange},
		{"second default", choice(a, 0, item(nop), item(nop, num(4, 1)), item(wrong)), true, api.ErrTwice},
		{"Do of the default", choice(a, 0, item(wrong), item(nop)), true, api.ErrRange},
		{"one default", choice(a, 0, item(nop), item(nop, num(4, 1))), true, api.OK},
		{"the same Match twice", choice(a, 0, item(nop, num(4, 1), num(4, 1)), item(nop, num(4, 1))), true, api.OK},
		{"a default in each Case", choice(a, 0, item(choice(a, 0, item(nop)))), true, api.OK},
	}
	for _, x := range rows {
		kind := api.Comb
		if x.waits {
			kind = api.Initial
		}
		checkRows(t, []row{{x.what, body(kind, x.s), x.want}})
		if e := CheckStmt(base(), x.s, x.waits); e != x.want {
			t.Errorf("CheckStmt: %s: %d, not %d", x.what, e, x.want)
		}
	}
}

// P8.6: targets, in a process that sets variables, and in one that sets wires.
func TestTargets(t *testing.T) {
	a, k := ref(sigA, 4), num(2, 1)
	cat := func(kids ...api.Expr) api.Expr {
		w := 0
		for _, e := range kids {
			w += e.W
		}
		return op(api.Cat, w, kids...)
	}
	slice := func(e api.Expr) api.Expr { return at(api.Slice, 2, 1, e) }
	part := func(e, at api.Expr) api.Expr { return op(api.Part, 2, e, at) }
	for _, x := range []struct {
		what string
		to   api.Expr
		comb api.Errno
		cont api.Errno
	}{
		{"wire", ref(sigW, 4), api.ErrType, api.OK},
		{"variable", ref(sigV, 4), api.OK, api.ErrType},
		{"output that is a variable", ref(sigQ, 8), api.OK, api.ErrType},
		{"output that is a wire", ref(sigO, 1), api.ErrType, api.OK},
		{"input", a, api.ErrType, api.ErrType},
		{"constant", num(4, 1), api.ErrForm, api.ErrForm},
		{"operation", op(api.Not, 4, ref(sigW, 4)), api.ErrForm, api.ErrForm},
		{"call", at(api.Call, 4, 0, a), api.ErrForm, api.ErrForm},
		{"slice of a wire", slice(ref(sigW, 4)), api.ErrType, api.OK},
		{"slice of a variable", slice(ref(sigV, 4)), api.OK, api.ErrType},
		{"slice of an input", slice(a), api.ErrType, api.ErrType},
		{"part of a wire", part(ref(sigW, 4), k), api.ErrType, api.OK},
		{"part of a wire, from a signal on", part(ref(sigW, 4), a), api.ErrType, api.ErrConst},
		{"part of a variable, from a signal on", part(ref(sigV, 4), a), api.OK, api.ErrType},
		{"part of a wire, from an unknown constant on", part(ref(sigW, 4), api.Expr{W: 2, N: api.Bits{W: 2, X: 3}}), api.ErrType, api.OK},
		{"part of an input, from a signal on", part(a, a), api.ErrType, api.ErrType},
		{"element of a wire", elem(sigB, 4, k), api.ErrType, api.OK},
		{"any element of a wire", elem(sigB, 4, a), api.ErrType, api.ErrConst},
		{"element of a variable", elem(sigM, 4, k), api.OK, api.ErrType},
		{"any element of a variable", elem(sigM, 4, a), api.OK, api.ErrType},
		{"slice of an element", slice(elem(sigB, 4, k)), api.ErrType, api.OK},
		{"slice of any element", slice(elem(sigB, 4, a)), api.ErrType, api.ErrConst},
		{"part of an element", part(elem(sigB, 4, k), k), api.ErrType, api.OK},
		{"part of any element", part(elem(sigB, 4, a), k), api.ErrType, api.ErrConst},
		{"part of an element, from a signal on", part(elem(sigB, 4, k), a), api.ErrType, api.ErrConst},
		{"part of any element of a variable", part(elem(sigM, 4, a), a), api.OK, api.ErrType},
		{"slice of a slice", at(api.Slice, 1, 0, slice(ref(sigW, 4))), api.ErrForm, api.ErrForm},
		{"part of a slice", part(slice(ref(sigV, 4)), k), api.ErrForm, api.ErrForm},
		{"slice of a part", at(api.Slice, 1, 0, part(ref(sigV, 4), k)), api.ErrForm, api.ErrForm},
		{"slice of a cat", slice(cat(ref(sigV, 4), ref(sigV, 4))), api.ErrForm, api.ErrForm},
		{"slice of a constant", slice(num(4, 0)), api.ErrForm, api.ErrForm},
		{"part of an operation", part(op(api.Not, 4, a), k), api.ErrForm, api.ErrForm},
		{"cat of variables", cat(ref(sigV, 4), slice(ref(sigQ, 8)), elem(sigM, 4, a)), api.OK, api.ErrType},
		{"cat of wires", cat(ref(sigW, 4), slice(ref(sigW, 4)), elem(sigB, 4, k)), api.ErrType, api.OK},
		{"cat of a cat", cat(cat(ref(sigV, 4)), cat(ref(sigV, 4), cat(ref(sigV, 4)))), api.OK, api.ErrType},
		{"cat of wires, one with a signal", cat(ref(sigW, 4), cat(elem(sigB, 4, a), num(1, 0))), api.ErrType, api.ErrConst},
		{"cat of a constant and an input", cat(num(1, 0), a), api.ErrForm, api.ErrForm},
		{"cat of an input and a constant", cat(a, num(1, 0)), api.ErrType, api.ErrType},
		{"time", op(api.Now, 64), api.ErrForm, api.ErrForm},
	} {
		s := set(x.to, num(x.to.W, 0))
		checkRows(t, []row{
			{x.what + " in a Comb", body(api.Comb, s), x.comb}, {x.what + " in a Cont", body(api.Cont, s), x.cont},
			{x.what + " in a Seq", body(api.Seq, put(x.to, num(x.to.W, 0))), x.comb}, {x.what + " in an Always", body(api.Always, s), x.comb},
			{x.what + " in an Initial", body(api.Initial, block(s)), x.comb},
		})
		for _, waits := range []bool{false, true} {
			if e := CheckStmt(base(), s, waits); e != x.comb {
				t.Errorf("CheckStmt: %s: %d, not %d", x.what, e, x.comb)
			}
		}
	}
}

// P8.6: targets in functions are its variables.
func TestTargetsInFunctions(t *testing.T) {
	set4 := func(to api.Expr) api.Design { return inFunc(set(to, num(to.W, 0))) }
	part := op(api.Part, 2, local(2, 8), local(0, 4))
	checkRows(t, []row{
		{"signal", set4(ref(sigV, 4)), api.ErrNone},
		{"argument", set4(local(0, 4)), api.OK},
		{"part", set4(part), api.OK},
		{"cat", set4(op(api.Cat, 6, local(0, 4), part)), api.OK},
		{"operation", set4(op(api.Not, 4, local(0, 4))), api.ErrForm},
	})
}
