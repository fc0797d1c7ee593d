package eval_test

import (
	"math"
	"testing"

	"maskwright/api"
	"maskwright/eval"
)

// inc gives v the value v + 1.
func inc() api.Stmt { return set(ref(sigV, 4), op(api.Add, 4, ref(sigV, 4), num(4, 1))) }

// give gives q a value.
func give(v uint64) api.Stmt { return set(ref(sigQ, 8), num(8, v)) }

// doRow is a statement, and the values of v and q afterwards.
type doRow struct {
	x    api.Stmt
	v, q uint64
}

// checkDo checks what statements do where v is 0 and q is 0, as Do, and as the body of a process.
func checkDo(t *testing.T, rows []doRow) {
	t.Helper()
	m := machine(t, base())
	s := known()
	s.Sigs[sigV][0], s.Sigs[sigQ][0] = vec("0000"), vec("00000000")
	for i, r := range rows {
		want := copyOf(s)
		want.Sigs[sigV][0].V, want.Sigs[sigQ][0].V = r.v, r.q
		x, puts, e := m.Do(s, r.x)
		if e != api.OK || !sameState(x, want) || len(puts) > 0 {
			t.Errorf("row %d: %v, %+v, error %d", i, x, puts, e)
		}
		d := base()
		d.Procs[api.Initial].Body = r.x
		if x, puts, e = eval.Body(d, s, api.Initial); e != api.OK || !sameState(x, want) || len(puts) > 0 {
			t.Errorf("row %d: %v, %+v, error %d as a body", i, x, puts, e)
		}
	}
}

// P9.4: statements that contain others.
func TestDo(t *testing.T) {
	v := ref(sigV, 4)
	checkDo(t, []doRow{
		{api.Stmt{}, 0, 0},
		{block(), 0, 0},
		{block(inc(), api.Stmt{}, inc(), block(inc())), 3, 0},
		{block(give(1), give(2)), 0, 2},
		{set(v, op(api.Sub, 4, num(4, 1), ref(sigW, 4))), 12, 0},
		{with(api.If, num(4, 2), give(1)), 0, 1},
		{with(api.If, num(4, 2), give(1), give(2)), 0, 1},
		{with(api.If, num(4, 0), give(1)), 0, 0},
		{with(api.If, num(4, 0), give(1), give(2)), 0, 2},
		{with(api.If, lit("0x"), give(1), give(2)), 0, 2},
		{with(api.If, lit("z"), give(1)), 0, 0},
		{with(api.If, lit("z1x"), give(1), give(2)), 0, 1},
		{with(api.While, op(api.Lt, 1, v, num(4, 9)), inc()), 9, 0},
		{with(api.While, num(1, 0), inc()), 0, 0},
		{with(api.While, lit("x"), inc()), 0, 0},
		{with(api.While, lit("z0"), inc()), 0, 0},
		{with(api.While, op(api.Xor, 4, v, num(4, 7)), inc()), 7, 0},
		{with(api.Repeat, num(4, 5), inc()), 5, 0},
		{with(api.Repeat, num(4, 13), inc()), 13, 0},
		{with(api.Repeat, num(4, 0), inc()), 0, 0},
		{with(api.Repeat, signed(num(4, 13)), inc()), 0, 0},
		{with(api.Repeat, signed(num(5, 13)), inc()), 13, 0},
		{with(api.Repeat, signed(num(64, 1<<63)), inc()), 0, 0},
		{with(api.Repeat, lit("1x"), inc()), 0, 0},
		{with(api.Repeat, signed(lit("z1")), inc()), 0, 0},
		{block(inc(), inc(), with(api.Repeat, v, block(inc(), inc()))), 6, 0}, // the number is that before the first turn
	})
}

// P9.4: which item of a Case is done.
func TestCase(t *testing.T) {
	m := machine(t, base())
	s := known()
	two := func(kind int, subject string, matches ...string) api.Stmt {
		x := choice(kind, lit(subject))
		for i, text := range matches {
			it := item(give(uint64(i + 1)))
			for ; len(text) > 0; text = text[min(len(text), 1+len(subject)):] {
				it.Match = append(it.Match, lit(text[:len(subject)]))
			}
			x.Items = append(x.Items, it)
		}
		return x
	}
	for i, r := range []struct {
		x    api.Stmt
		want int
	}{
		{two(api.Exact, "01", "00", "01", "01"), 1},
		{two(api.Exact, "01", "00 11", "10 01", "01"), 1},
		{two(api.Exact, "01", "00", "11"), -1},
		{two(api.Exact, "01"), -1},
		{two(api.Exact, "01", "00", "", "11"), 1},
		{two(api.Exact, "01", "", "01", "01"), 1},
		{two(api.Exact, "01", "", "00"), 0},
		{two(api.Exact, "01", "00", "01", ""), 1},
		{two(api.Exact, "01", ""), 0},
		{two(api.Exact, "0x", "01", "00", "0z", "0x"), 3},
		{two(api.Exact, "0z", "0x", "0z"), 1},
		{two(api.WildZ, "0z", "11", "0x"), 1},
		{two(api.WildZ, "0x", "01", "0z"), 1},
		{two(api.WildZ, "01", "0x", "z1"), 1},
		{two(api.WildZ, "10", "0z", "z1"), -1},
		{two(api.WildX, "01", "1x", "0x"), 1},
		{two(api.WildX, "x1", "00", "z1"), 1},
		{two(api.WildX, "xx", "00"), 0},
		{choice(api.Exact, ref(sigW, 4), item(give(9), ref(sigA, 4)), item(give(9), num(4, 7), ref(sigW, 4))), 1},
	} {
		k, e := m.Choice(s, r.x)
		if e != api.OK || k != r.want {
			t.Errorf("row %d: %d, error %d, not %d", i, k, e, r.want)
		}
		for k := range r.x.Items {
			r.x.Items[k].Do = give(uint64(k))
		}
		want := copyOf(s)
		if r.want >= 0 {
			want.Sigs[sigQ][0].V = uint64(r.want)
		}
		x, puts, e := m.Do(s, r.x)
		if e != api.OK || !sameState(x, want) || len(puts) > 0 {
			t.Errorf("row %d: %v, error %d", i, x, e)
		}
	}
}

// P9.4: the assignments that a Put makes for later, in their order.
func TestPuts(t *testing.T) {
	v, q := ref(sigV, 4), ref(sigQ, 8)
	m := machine(t, base())
	for i, r := range []struct {
		after []api.Expr
		want  uint64
	}{
		{nil, 0}, {[]api.Expr{num(4, 0)}, 0}, {[]api.Expr{num(4, 13)}, 13}, {[]api.Expr{lit("1x")}, 0}, {[]api.Expr{lit("z")}, 0},
		{[]api.Expr{signed(num(4, 13))}, 13}, {[]api.Expr{num(64, math.MaxUint64)}, math.MaxUint64}, {[]api.Expr{op(api.Now, 64)}, 1000},
	} {
		x, puts, e := m.Do(known(), put(v, append([]api.Expr{num(4, 3)}, r.after...)...))
		if e != api.OK || !sameState(x, known()) || !samePuts(puts, []eval.Put{{Sig: sigV, B: vec("0011"), After: r.want}}) {
			t.Errorf("row %d: %+v, error %d", i, puts, e)
		}
	}
	x, puts, e := m.Do(known(), block(
		put(q, num(8, 1), num(4, 2)), inc(), put(v, v, v), with(api.Repeat, num(4, 2), block(inc(), put(op(api.Cat, 8, v, elem(sigM, 4, num(2, 1))), op(api.Cat, 8, v, num(4, 1))))),
	))
	want := []eval.Put{
		{Sig: sigQ, B: vec("00000001"), After: 2}, {Sig: sigV, B: vec("1010"), After: 10},
		{Sig: sigV, B: vec("1011")}, {Sig: sigM, Elem: 1, B: vec("0001")}, {Sig: sigV, B: vec("1100")}, {Sig: sigM, Elem: 1, B: vec("0001")},
	}
	s := known()
	s.Sigs[sigV][0] = vec("1100")
	if e != api.OK || !sameState(x, s) || !samePuts(puts, want) {
		t.Error(x, puts, e)
	}
}

// P9.4: the example of the chapter.
func TestExample(t *testing.T) {
	up := func(kind int) api.Stmt {
		return api.Stmt{Op: kind, To: ref(0, 4), Args: []api.Expr{op(api.Add, 4, ref(0, 4), num(4, 1))}}
	}
	d := api.Design{Name: "d", Signals: []api.Signal{{Name: "q", Kind: api.Var, W: 4, Elems: 1, Init: []api.Bits{vec("0101")}}}}
	m := machine(t, d)
	if s, puts, e := m.Do(m.Start(), block(up(api.Set), up(api.Set))); e != api.OK || s.Sigs[0][0] != vec("0111") || len(puts) > 0 {
		t.Error(s, puts, e)
	}
	s, puts, e := m.Do(m.Start(), block(up(api.Put), up(api.Put)))
	if e != api.OK || s.Sigs[0][0] != vec("0101") || !samePuts(puts, []eval.Put{{B: vec("0110")}, {B: vec("0110")}}) {
		t.Error(s, puts, e)
	}
}

// P9.5: the turns of all loops of a call are counted together.
func TestTurns(t *testing.T) {
	m := machine(t, base())
	repeat := func(n uint64, kids ...api.Stmt) api.Stmt { return with(api.Repeat, num(64, n), block(kids...)) }
	nop, v := api.Stmt{}, ref(sigV, 4)
	below := func(n uint64) api.Expr { return op(api.Lt, 1, ref(sigT, 64), num(64, n)) }
	count := set(ref(sigT, 64), op(api.Add, 64, ref(sigT, 64), num(64, 1))) // t is 77
	once := with(api.While, op(api.Eq, 1, v, num(4, 9)), inc())
	for i, r := range []struct {
		x    api.Stmt
		want api.Errno
	}{
		{repeat(1000, nop), api.OK},
		{repeat(1001, nop), api.ErrLarge},
		{repeat(math.MaxUint64, nop), api.ErrLarge},
		{with(api.Repeat, signed(num(64, math.MaxInt64)), nop), api.ErrLarge},
		{block(repeat(500), repeat(500)), api.OK},
		{block(repeat(500), repeat(501)), api.ErrLarge},
		{repeat(31, repeat(31)), api.OK},                  // 31 + 31*31 = 992
		{repeat(10, repeat(99)), api.OK},                  // 10 + 990
		{repeat(10, repeat(99, nop), once), api.ErrLarge}, // one turn more
		{repeat(10, repeat(100)), api.ErrLarge},
		{with(api.While, below(1077), count), api.OK},
		{with(api.While, below(1078), count), api.ErrLarge},
		{with(api.While, num(1, 1), nop), api.ErrLarge},
		{block(repeat(999), once), api.OK},
		{block(repeat(1000), once), api.ErrLarge},
		{block(repeat(1000), with(api.While, num(1, 0), nop), repeat(0)), api.OK},
		{block(repeat(400), set(slice(1, 0, v), spin(600))), api.OK},
		{block(repeat(400), set(slice(1, 0, v), spin(601))), api.ErrLarge},
		{block(set(slice(1, 0, v), spin(601)), repeat(400)), api.ErrLarge},
		{with(api.If, spin(1000), nop), api.OK},
		{with(api.If, spin(1001), nop), api.ErrLarge},
		{with(api.Repeat, spin(999), nop), api.OK},
		{with(api.Repeat, spin(1000), nop), api.ErrLarge},
		{with(api.While, op(api.LAnd, 1, spin(333), below(79)), count), api.ErrLarge}, // 3*333 + 2
		{with(api.While, op(api.LAnd, 1, spin(332), below(79)), count), api.OK},       // 3*332 + 2
		{put(ref(sigV, 4), num(4, 1), spin(1001)), api.ErrLarge},
		{put(elem(sigM, 4, spin(1001)), num(4, 1)), api.ErrLarge},
		{put(elem(sigM, 4, spin(500)), op(api.Resize, 4, spin(250)), spin(250)), api.OK},
		{put(elem(sigM, 4, spin(500)), op(api.Resize, 4, spin(250)), spin(251)), api.ErrLarge},
		{choice(api.Exact, spin(500), item(nop, spin(501))), api.ErrLarge},
		{choice(api.Exact, spin(500), item(nop, num(1, 1)), item(nop, spin(501))), api.OK}, // the Match behind is not needed
	} {
		x, puts, e := m.Do(known(), r.x)
		if e != r.want || e != api.OK && !isNone(x, puts) {
			t.Errorf("row %d: error %d, not %d", i, e, r.want)
		}
		if _, _, e := m.Do(known(), r.x); e != r.want {
			t.Errorf("row %d: error %d in a second call", i, e)
		}
		if r.x.Op == api.Case {
			if k, e := m.Choice(known(), r.x); k != 0 || e != r.want {
				t.Errorf("row %d: %d, error %d from Choice", i, k, e)
			}
		}
	}
}

// P9.8: the errors of Choice, in their order.
func TestErrorsOfChoice(t *testing.T) {
	m := machine(t, base())
	good, bad := known(), badStates()[5]
	for i, r := range []struct {
		s    eval.State
		x    api.Stmt
		want api.Errno
	}{
		{good, choice(api.Exact, num(1, 1)), api.OK},
		{good, choice(api.Exact, num(1, 1), item(with(api.Delay, num(1, 1)))), api.OK},
		{bad, choice(api.Exact, num(1, 1)), api.ErrForm},
		{bad, choice(9, num(1, 1)), api.ErrForm},
		{bad, block(), api.ErrForm},
		{good, choice(9, num(1, 1)), api.ErrRange},
		{good, choice(api.Exact, num(1, 1), item(block()), item(block())), api.ErrTwice},
		{good, choice(api.Exact, num(1, 1), item(block(), num(2, 1))), api.ErrWidth},
		{good, choice(api.Exact, spin(1001), item(block(), num(2, 1))), api.ErrWidth},
		{good, set(ref(sigV, 3), num(4, 1)), api.ErrWidth},
		{good, set(ref(sigV, 4), num(4, 1)), api.ErrType},
		{good, block(), api.ErrType},
		{good, choice(api.Exact, spin(1001)), api.ErrLarge},
		{good, choice(api.Exact, num(1, 1), item(block(), spin(1001))), api.ErrLarge},
	} {
		k, e := m.Choice(r.s, r.x)
		want := 0
		if e == api.OK && len(r.x.Items) == 0 {
			want = -1
		}
		if e != r.want || k != want {
			t.Errorf("row %d: %d, error %d, not %d", i, k, e, r.want)
		}
	}
}

// P9.9: the errors of Do, in their order; those of statements that are not done do not come.
func TestErrorsOfDo(t *testing.T) {
	m := machine(t, base())
	good, bad, v := known(), badStates()[7], ref(sigV, 4)
	late, spun := set(v, num(4, 1), num(4, 1)), with(api.If, spin(1001), block())
	show, stop := api.Stmt{Op: api.Show, Text: "a"}, api.Stmt{Op: api.Stop}
	on := api.Stmt{Op: api.On, Edges: []api.Edge{{Sig: sigC}}}
	heavy := block()
	for range api.MaxTree {
		heavy.Kids = append(heavy.Kids, api.Stmt{})
	}
	for i, r := range []struct {
		s    eval.State
		x    api.Stmt
		want api.Errno
	}{
		{good, block(), api.OK},
		{bad, block(), api.ErrForm},
		{bad, api.Stmt{Op: 99}, api.ErrForm},
		{bad, stop, api.ErrForm},
		{good, api.Stmt{Op: 99}, api.ErrRange},
		{good, block(stop, api.Stmt{Op: 99}), api.ErrRange},
		{good, block(stop, set(ref(sigA, 4), num(4, 1))), api.ErrType},
		{good, block(spun, set(v, num(3, 1))), api.ErrWidth},
		{good, heavy, api.ErrLarge},
		{good, block(heavy.Kids[1:]...), api.OK},
		{good, late, api.ErrState},
		{good, with(api.Delay, num(1, 0)), api.ErrState},
		{good, with(api.Until, num(1, 1)), api.ErrState},
		{good, on, api.ErrState},
		{good, show, api.ErrState},
		{good, with(api.Check, num(1, 1)), api.ErrState},
		{good, stop, api.ErrState},
		{good, block(stop, spun), api.ErrState},
		{good, block(spun, stop), api.ErrLarge},
		{good, with(api.Delay, spin(1001)), api.ErrState},
		{good, set(v, op(api.Resize, 4, spin(1001)), num(1, 1)), api.ErrState},
		{good, with(api.While, num(1, 1), stop), api.ErrState},
		{good, with(api.Repeat, num(64, 1<<63), stop), api.ErrState},
		{good, block(with(api.Repeat, num(10, 999), block()), with(api.Repeat, num(10, 5), stop)), api.ErrState},
		{good, block(with(api.Repeat, num(10, 999), block()), with(api.While, num(1, 1), stop)), api.ErrState},
		{good, block(with(api.Repeat, num(10, 1000), block()), with(api.Repeat, num(10, 5), stop)), api.ErrLarge},
		{good, with(api.Repeat, spin(1001), stop), api.ErrLarge},
		{good, with(api.If, spin(1001), stop, stop), api.ErrLarge},
		{good, choice(api.Exact, spin(1001), item(stop, num(1, 1))), api.ErrLarge},
		{good, block(inc(), put(v, num(4, 1)), show), api.ErrState},
		{good, with(api.If, num(1, 0), stop), api.OK},
		{good, with(api.If, num(1, 1), block(), show), api.OK},
		{good, with(api.While, num(1, 0), late), api.OK},
		{good, with(api.Repeat, num(1, 0), on), api.OK},
		{good, choice(api.Exact, num(1, 0), item(stop, num(1, 1))), api.OK},
	} {
		x, puts, e := m.Do(r.s, r.x)
		if e != r.want || e != api.OK && !isNone(x, puts) {
			t.Errorf("row %d: %v, %v, error %d, not %d", i, x, puts, e, r.want)
		}
	}
}

// P9.9: the bodies of processes, those of Cont among them.
func TestBody(t *testing.T) {
	d := base()
	d.Procs[api.Cont].Body = set(op(api.Cat, 6, slice(2, 1, ref(sigW, 4)), elem(sigB, 4, num(1, 1))), op(api.Cat, 6, lit("xz"), ref(sigA, 4)))
	m := machine(t, d)
	for proc, change := range []func(s *eval.State){
		func(s *eval.State) { s.Sigs[sigW][0], s.Sigs[sigB][1] = vec("0xz1"), vec("0011") },
		func(s *eval.State) { s.Sigs[sigV][0] = vec("0011") },
		func(s *eval.State) {},
		nil,
		func(s *eval.State) {},
	} {
		x, puts, e := m.Body(known(), proc)
		if change == nil {
			if !isNone(x, puts) || e != api.ErrState {
				t.Errorf("process %d: error %d", proc, e)
			}
			continue
		}
		s := known()
		change(&s)
		var want []eval.Put
		if proc == api.Seq {
			want = []eval.Put{{Sig: sigQ, B: vec("00000111")}}
		}
		if e != api.OK || !sameState(x, s) || !samePuts(puts, want) {
			t.Errorf("process %d: %v, %+v, error %d", proc, x, puts, e)
		}
	}
	d.Procs[api.Always].Body = with(api.While, num(1, 1), block())
	for i, r := range []struct {
		s    eval.State
		proc int
		want api.Errno
	}{
		{known(), 3, api.ErrLarge}, {badStates()[9], 3, api.ErrForm}, {badStates()[9], -1, api.ErrForm}, {known(), -1, api.ErrNone}, {known(), 5, api.ErrNone},
		{known(), math.MaxInt, api.ErrNone}, {known(), math.MinInt, api.ErrNone},
	} {
		if x, puts, e := machine(t, d).Body(r.s, r.proc); !isNone(x, puts) || e != r.want {
			t.Errorf("row %d: error %d, not %d", i, e, r.want)
		}
		if x, puts, e := eval.Body(d, r.s, r.proc); !isNone(x, puts) || e != r.want {
			t.Errorf("row %d: error %d, not %d, from the function", i, e, r.want)
		}
	}
}
