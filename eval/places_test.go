package eval_test

import (
	"testing"

	"maskwright/api"
	"maskwright/eval"
)

// targetRow is a target, a value, and the assignments.
type targetRow struct {
	to   api.Expr
	b    string
	want []eval.Put
}

// checkTargets checks Places, and what Sets and Puts do with the targets.
func checkTargets(t *testing.T, s eval.State, rows []targetRow) {
	t.Helper()
	m := machine(t, base())
	for i, r := range rows {
		other, slow := num(r.to.W, 1), op(api.Resize, r.to.W, spin(2000)) // the Args of the statement do not count
		for _, x := range []api.Stmt{set(r.to, other), set(r.to, other, spin(2000)), put(r.to, slow), put(r.to, other, num(3, 5))} {
			l, e := m.Places(s, x, vec(r.b))
			if e != api.OK || !samePuts(l, r.want) {
				t.Errorf("row %d: %+v, error %d", i, l, e)
			}
		}
		after := copyOf(s)
		var late []eval.Put
		for _, p := range r.want {
			after = eval.Apply(after, p)
			p.After = 5
			late = append(late, p)
		}
		if x, puts, e := m.Do(s, set(r.to, lit(r.b))); e != api.OK || !sameState(x, after) || len(puts) > 0 {
			t.Errorf("row %d: %v, %+v, error %d from a Set", i, x, puts, e)
		}
		if x, puts, e := m.Do(s, put(r.to, lit(r.b), num(3, 5))); e != api.OK || !sameState(x, s) || !samePuts(puts, late) {
			t.Errorf("row %d: %v, %+v, error %d from a Put", i, x, puts, e)
		}
	}
}

// P9.6: the assignments of targets that are no Cat.
func TestTargets(t *testing.T) {
	v, q, m1 := ref(sigV, 4), ref(sigQ, 8), elem(sigM, 4, num(2, 1))
	one := func(p eval.Put, b string) []eval.Put {
		p.B = vec(b)
		return []eval.Put{p}
	}
	checkTargets(t, mixed(), []targetRow{
		{v, "01xz", one(eval.Put{Sig: sigV}, "01xz")},
		{v, "1001", one(eval.Put{Sig: sigV}, "1001")}, // the value that it has
		{m1, "1111", one(eval.Put{Sig: sigM, Elem: 1}, "1111")},
		{elem(sigM, 4, num(2, 3)), "1111", nil},
		{elem(sigM, 4, lit("1x")), "1111", nil},
		{elem(sigM, 4, num(64, 1<<63)), "1111", nil},
		{elem(sigM, 4, num(7, 64)), "1111", nil},
		{elem(sigM, 4, signed(num(2, 3))), "1111", nil},
		{elem(sigM, 4, signed(num(2, 2))), "1111", nil},
		{elem(sigM, 4, num(2, 2)), "1111", one(eval.Put{Sig: sigM, Elem: 2}, "1111")},
		{elem(sigM, 4, signed(num(3, 2))), "1111", one(eval.Put{Sig: sigM, Elem: 2}, "1111")},
		{elem(sigV, 4, num(2, 0)), "0000", one(eval.Put{Sig: sigV}, "0000")},
		{elem(sigV, 4, num(2, 1)), "0000", nil},
		{slice(2, 1, v), "zx", one(eval.Put{Sig: sigV, At: 1}, "zx")},
		{slice(1, 3, m1), "0", one(eval.Put{Sig: sigM, Elem: 1, At: 3}, "0")},
		{slice(1, 3, elem(sigM, 4, num(2, 3))), "0", nil},
		{part(2, q, num(4, 6)), "10", one(eval.Put{Sig: sigQ, At: 6}, "10")},
		{part(2, q, num(4, 7)), "10", one(eval.Put{Sig: sigQ, At: 7}, "10")},
		{part(2, q, num(4, 8)), "10", nil},
		{part(2, q, num(4, 15)), "10", nil},
		{part(2, q, num(64, 1<<63)), "10", nil},
		{part(2, q, signed(num(4, 15))), "10", one(eval.Put{Sig: sigQ, At: -1}, "10")},
		{part(2, q, signed(num(4, 14))), "10", nil},
		{part(2, q, signed(num(64, 1<<63))), "10", nil},
		{part(12, q, signed(num(4, 13))), "000000000001", one(eval.Put{Sig: sigQ, At: -3}, "000000000001")},
		{part(2, signed(q), num(4, 15)), "10", nil},
		{signed(part(2, q, num(4, 15))), "10", nil},
		{part(2, q, lit("0x")), "10", nil},
		{part(2, q, signed(lit("z"))), "10", nil},
		{part(2, m1, num(4, 2)), "10", one(eval.Put{Sig: sigM, Elem: 1, At: 2}, "10")},
		{part(2, elem(sigM, 4, lit("x")), num(4, 2)), "10", nil},
		{part(2, elem(sigM, 4, num(2, 3)), num(4, 2)), "10", nil},
		{part(2, elem(sigM, 4, num(2, 2)), num(4, 4)), "10", nil},
		{part(2, q, elem(sigM, 4, num(2, 1))), "10", one(eval.Put{Sig: sigQ, At: 2}, "10")},
	})
}

// P9.6: the numbers of Parts are limited, and bits at the edges of a long element.
func TestFarParts(t *testing.T) {
	wide := ref(sigT, 64)
	m := machine(t, base())
	all := api.Bits{W: 64, V: 1<<64 - 1}
	for i, r := range []struct {
		from api.Expr
		at   int
		ok   bool
	}{
		{num(7, 63), 63, true}, {num(7, 64), 0, false}, {num(7, 65), 0, false}, {num(64, 1<<64-1), 0, false}, {signed(num(64, 1<<64-63)), -63, true},
		{signed(num(64, 1<<64-64)), 0, false}, {signed(num(64, 1<<63+1)), 0, false}, {signed(num(8, 63)), 63, true}, {signed(num(64, 1<<63-1)), 0, false},
	} {
		var want []eval.Put
		if r.ok {
			want = []eval.Put{{Sig: sigT, At: r.at, B: all}}
		}
		l, e := m.Places(known(), set(part(64, wide, r.from), num(64, 0)), all)
		if e != api.OK || !samePuts(l, want) {
			t.Errorf("row %d: %+v, error %d", i, l, e)
		}
	}
}

// P9.6: the value of a Cat is divided, and the kids are assigned in order.
func TestCatTargets(t *testing.T) {
	v, q, m1 := ref(sigV, 4), ref(sigQ, 8), elem(sigM, 4, num(2, 1))
	m3, cat := elem(sigM, 4, num(2, 3)), func(w int, kids ...api.Expr) api.Expr { return op(api.Cat, w, kids...) }
	checkTargets(t, mixed(), []targetRow{
		{cat(4, v), "01xz", []eval.Put{{Sig: sigV, B: vec("01xz")}}},
		{cat(16, q, v, m1), "1100xxzz01xz1010", []eval.Put{{Sig: sigQ, B: vec("1100xxzz")}, {Sig: sigV, B: vec("01xz")}, {Sig: sigM, Elem: 1, B: vec("1010")}}},
		{cat(12, m1, m3, v), "111100000110", []eval.Put{{Sig: sigM, Elem: 1, B: vec("1111")}, {Sig: sigV, B: vec("0110")}}},
		{cat(8, v, v), "11110110", []eval.Put{{Sig: sigV, B: vec("1111")}, {Sig: sigV, B: vec("0110")}}},
		{cat(9, cat(5, slice(1, 3, v), m1), cat(4, cat(2, part(2, q, num(4, 7))), slice(2, 0, v))), "1z0010110",
			[]eval.Put{{Sig: sigV, At: 3, B: vec("1")}, {Sig: sigM, Elem: 1, B: vec("z001")}, {Sig: sigQ, At: 7, B: vec("01")}, {Sig: sigV, B: vec("10")}}},
		{cat(8, m3, m3), "11110110", nil},
		{cat(4, part(2, q, lit("x")), part(2, q, signed(num(4, 15)))), "1001", []eval.Put{{Sig: sigQ, At: -1, B: vec("01")}}},
	})
}

// P9.6: the indices have the values before the first assignment.
func TestIndicesComeFirst(t *testing.T) {
	d := base()
	m := machine(t, d)
	s := known() // v is 9, m 1 2 3
	v, mv := ref(sigV, 4), elem(sigM, 4, slice(2, 0, ref(sigV, 4)))
	x, _, e := m.Do(s, set(op(api.Cat, 8, v, mv), lit("00001010")))
	if e != api.OK || x.Sigs[sigV][0] != vec("0000") || x.Sigs[sigM][1] != vec("1010") || x.Sigs[sigM][0] != vec("0001") {
		t.Error(x, e)
	}
	x, _, e = m.Do(s, set(op(api.Cat, 12, v, part(4, v, slice(1, 0, v)), mv), lit("010001111010")))
	if e != api.OK || x.Sigs[sigV][0] != vec("1110") || x.Sigs[sigM][1] != vec("1010") {
		t.Error(x, e)
	}
	// In functions, too: k is 1, gets 0, and element 1 of l the value.
	k, l := local(ref(1, 2)), func(i api.Expr) api.Expr { return local(elem(2, 2, i)) }
	d.Funcs[funcNone] = api.Func{Name: "none", Vars: []api.Signal{variable("y", 4, 1), variable("k", 2, 1), variable("l", 2, 3)}, Body: block(
		set(k, num(2, 1)), set(op(api.Cat, 4, k, l(k)), lit("0010")), set(local(ref(0, 4)), op(api.Cat, 4, l(num(2, 0)), l(num(2, 1)))),
	)}
	checkValues(t, d, s, []valueRow{{at(api.Call, 4, funcNone), "xx10"}})
}

// P9.8: the errors of Places, in their order.
func TestErrorsOfPlaces(t *testing.T) {
	m := machine(t, base())
	good, bad, v := known(), badStates()[3], ref(sigV, 4)
	four := vec("0000")
	mspin := elem(sigM, 4, spin(1001))
	for i, r := range []struct {
		s    eval.State
		x    api.Stmt
		b    api.Bits
		want api.Errno
	}{
		{good, set(v, num(4, 1)), four, api.OK},
		{good, set(v, num(4, 1), num(4, 1)), four, api.OK},
		{good, put(v, num(4, 1)), four, api.OK},
		{good, put(mspin, num(4, 1)), four, api.ErrLarge},
		{good, put(part(1, mspin, lit("x")), num(1, 1)), vec("1"), api.ErrLarge},
		{good, put(part(1, elem(sigM, 4, lit("x")), spin(1001)), num(1, 1)), vec("1"), api.ErrLarge},
		{good, put(part(1, elem(sigM, 4, spin(500)), spin(501)), num(1, 1)), vec("1"), api.ErrLarge},
		{good, put(part(1, elem(sigM, 4, spin(500)), spin(500)), num(1, 1)), vec("1"), api.OK},
		{good, set(v, op(api.Resize, 4, spin(1001)), spin(1001)), four, api.OK},
		{bad, set(v, num(4, 1)), four, api.ErrForm},
		{bad, set(v, num(3, 1)), four, api.ErrForm},
		{bad, block(), vec("1"), api.ErrForm},
		{good, set(v, num(3, 1)), four, api.ErrWidth},
		{good, set(ref(sigA, 4), num(4, 1)), four, api.ErrType},
		{good, set(ref(sigW, 4), num(4, 1)), four, api.ErrType},
		{good, set(num(4, 1), num(4, 1)), four, api.ErrForm},
		{good, api.Stmt{Op: 99}, four, api.ErrRange},
		{good, set(v, num(4, 1), num(65, 1)), four, api.ErrRange},
		{good, block(), four, api.ErrType},
		{good, block(), api.Bits{}, api.ErrType},
		{good, with(api.Delay, num(4, 1)), four, api.ErrType},
		{good, choice(api.Exact, num(4, 1)), four, api.ErrType},
		{good, set(v, num(4, 1)), vec("000"), api.ErrWidth},
		{good, put(v, num(4, 1)), vec("00000"), api.ErrWidth},
		{good, put(v, num(4, 1)), api.Bits{}, api.ErrWidth},
		{good, put(v, num(4, 1)), api.Bits{W: 4, V: 16}, api.ErrWidth},
		{good, put(v, num(4, 1)), api.Bits{W: 65}, api.ErrWidth},
		{good, put(mspin, num(4, 1)), vec("000"), api.ErrWidth},
	} {
		l, e := m.Places(r.s, r.x, r.b)
		if e != r.want || e != api.OK && len(l) > 0 {
			t.Errorf("row %d: %+v, error %d, not %d", i, l, e, r.want)
		}
	}
}
