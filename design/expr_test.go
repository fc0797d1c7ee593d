package design

import (
	"slices"
	"strings"
	"testing"

	"maskwright/api"
)

// names of the operations of expressions, in order.
const opNames = "Const Ref Elem Slice Part Not Neg RedAnd RedOr RedXor LNot LAnd LOr And Or Xor Add Sub Mul Div Mod Shl Shr Sar Eq Ne CaseEq CaseNe Lt Le Cond Cat Rep Resize Call Now"

// samples has a valid expression of 4 bits, or of as many as it can have, for each operation.
func samples() []api.Expr {
	x, y, z, w := ref(sigA, 4), num(4, 9), num(1, 1), ref(sigC, 1)
	return []api.Expr{
		num(4, 3), x, elem(sigM, 4, x), at(api.Slice, 4, 2, ref(sigQ, 8)), op(api.Part, 4, ref(sigQ, 8), x),
		op(api.Not, 4, x), op(api.Neg, 4, x), op(api.RedAnd, 1, x), op(api.RedOr, 1, x), op(api.RedXor, 1, x),
		op(api.LNot, 1, x), op(api.LAnd, 1, x, z), op(api.LOr, 1, w, x), op(api.And, 4, x, y), op(api.Or, 4, x, y),
		op(api.Xor, 4, x, y), op(api.Add, 4, x, y), op(api.Sub, 4, x, y), op(api.Mul, 4, x, y), op(api.Div, 4, x, y),
		op(api.Mod, 4, x, y), op(api.Shl, 4, x, w), op(api.Shr, 4, x, w), op(api.Sar, 4, x, w), op(api.Eq, 1, x, y),
		op(api.Ne, 1, x, y), op(api.CaseEq, 1, x, y), op(api.CaseNe, 1, x, y), op(api.Lt, 1, x, y), op(api.Le, 1, x, y),
		op(api.Cond, 4, ref(sigQ, 8), x, y), op(api.Cat, 6, x, z, w), at(api.Rep, 4, 4, z), op(api.Resize, 4, z), at(api.Call, 8, 1, x, num(2, 1)),
		op(api.Now, 64),
	}
}

// P8.5: a valid expression of each operation, and operations that there are not.
func TestOperations(t *testing.T) {
	names := strings.Fields(opNames)
	if len(names) != api.Now+1 || len(samples()) != len(names) {
		t.Fatal("not one sample for each operation")
	}
	for i, e := range samples() {
		if e.Op != i {
			t.Errorf("sample of %s", names[i])
		}
		checkRows(t, []row{{names[i], value(e), api.OK}})
		for _, w := range []int{-1, 0, 65} {
			e.W = w
			checkRows(t, []row{{names[i] + " of a wrong width", value(e), api.ErrRange}})
		}
	}
	for _, n := range []int{-1, api.Now + 1, 99} {
		checkRows(t, []row{{"no operation", value(op(n, 4)), api.ErrRange}, {"no operation, with kids", value(op(n, 4, num(1, 1), num(1, 1))), api.ErrRange}})
	}
}

// P8.5: the numbers of kids.
func TestNumbersOfKids(t *testing.T) {
	permitted := func(name string, n int) bool {
		switch {
		case name == "Call":
			return true
		case name == "Cat":
			return n >= 1
		case name == "Cond":
			return n == 3
		case strings.Contains(" Const Ref Now ", " "+name+" "):
			return n == 0
		case strings.Contains(" Elem Slice Not Neg RedAnd RedOr RedXor LNot Rep Resize ", " "+name+" "):
			return n == 1
		}
		return n == 2
	}
	names := strings.Fields(opNames)
	for i, e := range samples() {
		right := len(e.Kids)
		for n := range 6 {
			e.Kids = append(append([]api.Expr{}, e.Kids[:min(right, len(e.Kids))]...), repeat(6, num(4, 1))...)[:n]
			if got := Check(value(e)); (got == api.ErrForm) == permitted(names[i], n) && names[i] != "Call" {
				t.Errorf("%s with %d kids: %d", names[i], n, got)
			}
			if names[i] == "Call" && n != 2 && Check(value(e)) != api.ErrForm {
				t.Errorf("Call with %d kids", n)
			}
		}
	}
}

// P8.5: fields that an operation does not use, before its own errors.
func TestFieldsOfExpressions(t *testing.T) {
	names := strings.Fields(opNames)
	for i, e := range samples() {
		name := " " + names[i] + " "
		for _, x := range []struct {
			field string
			used  string
			set   func(e *api.Expr)
		}{
			{"N", " Const ", func(e *api.Expr) { e.N = api.Bits{W: 1} }},
			{"V of N", " Const ", func(e *api.Expr) { e.N = api.Bits{V: 1} }},
			{"X of N", " Const ", func(e *api.Expr) { e.N = api.Bits{X: 1} }},
			{"Sig", " Ref Elem ", func(e *api.Expr) { e.Sig = 1 }},
			{"Sig -1", " Ref Elem ", func(e *api.Expr) { e.Sig = -1 }},
			{"Local", " Ref Elem ", func(e *api.Expr) { e.Local = true }},
			{"At", " Slice Rep Call ", func(e *api.Expr) { e.At = 1 }},
			{"At -1", " Slice Rep Call ", func(e *api.Expr) { e.At = -1 }},
		} {
			e := e
			x.set(&e)
			if got := Check(value(e)); !strings.Contains(x.used, name) && got != api.ErrForm || strings.Contains(x.used, name) && got == api.ErrForm {
				t.Errorf("%s with %s: %d", names[i], x.field, got)
			}
		}
		want := api.OK
		if strings.Contains(" RedAnd RedOr RedXor LNot LAnd LOr Eq Ne CaseEq CaseNe ", name) {
			want = api.ErrForm
		}
		checkRows(t, []row{{names[i] + " with Signed", value(signed(e)), want}})
	}
}

// P8.5: the widths that fit, for all small widths of an expression and its kids.
func TestWidthsOfExpressions(t *testing.T) {
	rules := map[string]func(w, a, b, c int) bool{
		"Part Resize":                       func(w, a, b, c int) bool { return true },
		"Not Neg Shl Shr Sar":               func(w, a, b, c int) bool { return w == a },
		"RedAnd RedOr RedXor LNot LAnd LOr": func(w, a, b, c int) bool { return w == 1 },
		"Eq Ne CaseEq CaseNe Lt Le":         func(w, a, b, c int) bool { return w == 1 && a == b },
		"Cond":                              func(w, a, b, c int) bool { return w == b && w == c },
		"And Or Xor Add Sub Mul Div Mod":    func(w, a, b, c int) bool { return w == a && w == b },
		"Cat":                               func(w, a, b, c int) bool { return w == a+b+c },
	}
	names, list := strings.Fields(opNames), samples()
	for group, fits := range rules {
		for _, name := range strings.Fields(group) {
			e := list[slices.Index(names, name)]
			n := len(e.Kids)
			for k := range 4 * 4 * 4 * 6 {
				a, b, c, w := 1+k%4, 1+k/4%4, 1+k/16%4, 1+k/64
				e.W = w
				e.Kids = []api.Expr{num(a, 0), num(b, 0), num(c, 0)}[:n]
				want := api.ErrWidth
				if fits(w, a, b, c) {
					want = api.OK
				}
				if got := Check(value(e)); got != want {
					t.Errorf("%s of %d bits, of %d, %d, %d: %d", name, w, a, b, c, got)
				}
			}
		}
	}
}

// P8.5: the operations with rules of their own.
func TestExpressions(t *testing.T) {
	most := int(^uint(0) >> 1)
	long := repeat(32, num(2, 1))
	for _, x := range []struct {
		what string
		e    api.Expr
		want api.Errno
	}{
		{"constant with x and z", api.Expr{Op: api.Const, W: 4, N: api.Bits{W: 4, V: 5, X: 6}}, api.OK},
		{"constant of another width", api.Expr{Op: api.Const, W: 4, N: api.Bits{W: 5, V: 5}}, api.ErrWidth},
		{"constant that is not valid", api.Expr{Op: api.Const, W: 4, N: api.Bits{W: 4, V: 16}}, api.ErrWidth},
		{"constant without N", api.Expr{Op: api.Const, W: 4}, api.ErrWidth},
		{"nothing", api.Expr{}, api.ErrRange},
		{"array", ref(sigM, 4), api.ErrType},
		{"array of another width", ref(sigM, 3), api.ErrType},
		{"signal -1", ref(-1, 4), api.ErrNone},
		{"signal 9", ref(9, 4), api.ErrNone},
		{"local signal", local(sigA, 4), api.ErrNone},
		{"local array", local(sigM, 4), api.ErrNone},
		{"another width", ref(sigA, 3), api.ErrWidth},
		{"element", elem(sigM, 4, num(1, 0)), api.OK},
		{"element that there is not", elem(sigM, 4, num(64, ^uint64(0))), api.OK},
		{"element of a signal with one", elem(sigA, 4, num(1, 0)), api.OK},
		{"element of another width", elem(sigM, 5, num(1, 0)), api.ErrWidth},
		{"element of nothing", elem(9, 4, num(1, 0)), api.ErrNone},
		{"local element", api.Expr{Op: api.Elem, W: 4, Sig: sigM, Local: true, Kids: []api.Expr{num(1, 0)}}, api.ErrNone},
		{"element with a bad index", elem(9, 4, ref(sigM, 4)), api.ErrType},
		{"slice at the end", at(api.Slice, 3, 5, ref(sigQ, 8)), api.OK},
		{"slice behind the end", at(api.Slice, 3, 6, ref(sigQ, 8)), api.ErrWidth},
		{"slice before the beginning", at(api.Slice, 3, -1, ref(sigQ, 8)), api.ErrWidth},
		{"slice of all", at(api.Slice, 8, 0, ref(sigQ, 8)), api.OK},
		{"wide slice", at(api.Slice, 9, 0, ref(sigQ, 8)), api.ErrWidth},
		{"slice from far away", at(api.Slice, 3, most, ref(sigQ, 8)), api.ErrWidth},
		{"slice from far below", at(api.Slice, 3, -most-1, ref(sigQ, 8)), api.ErrWidth},
		{"slice of an operation", at(api.Slice, 1, 3, op(api.Not, 4, ref(sigA, 4))), api.OK},
		{"wide part", op(api.Part, 64, num(1, 0), num(1, 0)), api.OK},
		{"cat of 64 bits", op(api.Cat, 64, long...), api.OK},
		{"cat of 66 bits", op(api.Cat, 64, append(long, num(2, 1))...), api.ErrWidth},
		{"once", at(api.Rep, 4, 1, num(4, 0)), api.OK},
		{"64 times", at(api.Rep, 64, 64, num(1, 0)), api.OK},
		{"65 times", at(api.Rep, 64, 65, num(1, 0)), api.ErrWidth},
		{"no times", at(api.Rep, 4, 0, num(4, 0)), api.ErrWidth},
		{"-1 times", at(api.Rep, 4, -1, num(4, 0)), api.ErrWidth},
		{"many times", at(api.Rep, 4, most/2+2, num(4, 0)), api.ErrWidth},
		{"another width than so many times", at(api.Rep, 7, 2, num(4, 0)), api.ErrWidth},
		{"call", at(api.Call, 4, 0, num(4, 0)), api.OK},
		{"call of function -1", at(api.Call, 4, -1, num(4, 0)), api.ErrNone},
		{"call of function 2", at(api.Call, 4, 2, num(4, 0)), api.ErrNone},
		{"call with another argument", at(api.Call, 4, 0, num(5, 0)), api.ErrWidth},
		{"call with another second argument", at(api.Call, 8, 1, num(4, 0), num(3, 1)), api.ErrWidth},
		{"call with two arguments", at(api.Call, 4, 0, num(4, 0), num(4, 0)), api.ErrForm},
		{"call without arguments", at(api.Call, 4, 0), api.ErrForm},
		{"call with another result", at(api.Call, 5, 0, num(4, 0)), api.ErrWidth},
		{"call with the width of another variable", at(api.Call, 4, 1, num(4, 0), num(2, 1)), api.ErrWidth},
		{"time of 63 bits", op(api.Now, 63), api.ErrWidth},
		{"kid before the operation", op(99, 0, ref(9, 4)), api.ErrNone},
		{"first kid first", op(api.Add, 4, ref(sigM, 4), ref(9, 4)), api.ErrType},
		{"kid of a kid", op(api.Add, 4, num(4, 0), op(api.Not, 4, op(api.Not, 4, ref(sigM, 4)))), api.ErrType},
		{"range before form", api.Expr{Op: api.Not, W: 65, At: 1}, api.ErrRange},
		{"form before width", api.Expr{Op: api.Not, W: 5, At: 1, Kids: []api.Expr{num(4, 0)}}, api.ErrForm},
	} {
		checkRows(t, []row{{x.what, value(x.e), x.want}})
		if e := CheckExpr(base(), x.e); e != x.want {
			t.Errorf("CheckExpr: %s: %d, not %d", x.what, e, x.want)
		}
	}
}

// P8.5: expressions in the bodies of functions.
func TestExpressionsInFunctions(t *testing.T) {
	in := func(e api.Expr) api.Design {
		return inFunc(api.Stmt{Op: api.If, Args: []api.Expr{e}, Kids: repeat(1, api.Stmt{})})
	}
	localElem := func(sig, w int) api.Expr {
		e := elem(sig, w, num(1, 1))
		e.Local = true
		return e
	}
	arrays := func(e api.Expr) api.Design {
		d := base()
		d.Funcs[0].Body = set(local(1, 4), e)
		return d
	}
	checkRows(t, []row{
		{"signal", in(ref(sigA, 4)), api.ErrNone},
		{"element of a signal", in(elem(sigA, 4, num(1, 0))), api.ErrNone},
		{"variable", in(local(2, 8)), api.OK},
		{"variable of another width", in(local(2, 4)), api.ErrWidth},
		{"variable 3", in(local(3, 4)), api.ErrNone},
		{"variable -1", in(local(-1, 4)), api.ErrNone},
		{"element of a variable", in(localElem(0, 4)), api.OK},
		{"element of variable 3", in(localElem(3, 4)), api.ErrNone},
		{"array", arrays(local(2, 4)), api.ErrType},
		{"element of an array", arrays(localElem(2, 4)), api.OK},
		{"call of the function before", in(at(api.Call, 4, 0, local(0, 4))), api.OK},
		{"call of itself", in(at(api.Call, 8, 1, local(0, 4), local(1, 2))), api.ErrLoop},
		{"bad call of itself", in(at(api.Call, 8, 1)), api.ErrLoop},
		{"call of the next one", arrays(at(api.Call, 8, 1)), api.ErrLoop},
		{"call of no function", arrays(at(api.Call, 8, 2)), api.ErrNone},
		{"call of function -1", arrays(at(api.Call, 8, -1)), api.ErrNone},
		{"time", in(op(api.Now, 64)), api.ErrType},
		{"time of 3 bits", in(op(api.Now, 3)), api.ErrType},
		{"time with At", in(at(api.Now, 64, 1)), api.ErrForm},
	})
}

// P8.9: CheckExpr returns in designs that are not valid, too.
func TestCheckExprInBadDesigns(t *testing.T) {
	for _, f := range []api.Func{{}, {Args: -1}, {Args: 1}, {Args: 3, Vars: make([]api.Signal, 1)}, {Args: 2, Vars: make([]api.Signal, 2)}} {
		d := api.Design{Funcs: []api.Func{f}}
		for n := range 4 {
			if e := CheckExpr(d, at(api.Call, 1, 0, repeat(n, num(1, 0))...)); e == api.OK {
				t.Error(f, n)
			}
		}
	}
	if e := CheckExpr(api.Design{Signals: make([]api.Signal, 1)}, ref(0, 1)); e == api.OK {
		t.Error("a signal without bits")
	}
}
