package eval_test

import (
	"testing"

	"maskwright/api"
	"maskwright/bits"
	"maskwright/design"
	"maskwright/eval"
)

// trial is a random design with a state.
type trial struct {
	*testing.T
	*grower
	m     eval.Machine
	s     eval.State
	seen  map[int]bool
	ended map[api.Errno]int
}

// trials calls f for random designs and states; afterwards, all operations must have been evaluated.
func trials(t *testing.T, n int, tame bool, f func(x trial)) {
	x := trial{T: t, seen: map[int]bool{}, ended: map[api.Errno]int{}}
	for seed := range int64(n) {
		x.grower = grow(seed, tame)
		m, e := eval.New(x.d)
		if e != api.OK {
			t.Fatalf("design %d: error %d", seed, e)
		}
		x.m, x.s = m, eval.State{Now: x.Uint64() >> x.Intn(64), Sigs: x.state()}
		if e := m.Check(x.s); e != api.OK {
			t.Fatalf("design %d: error %d of a state", seed, e)
		}
		f(x)
		if t.Failed() {
			t.Fatalf("design %d: %+v", seed, x.d)
		}
	}
	for kind := api.Const; kind <= api.Now; kind++ {
		if !x.seen[kind] {
			t.Errorf("no operation %d was evaluated", kind)
		}
	}
	for kind := api.Nop; kind <= api.Put; kind++ {
		if !x.seen[100+kind] {
			t.Errorf("no statement %d was done", kind)
		}
	}
}

// model returns the model in the state.
func (x trial) model() *model {
	m := newModel(x.d, x.seen)
	m.now = x.s.Now
	return m
}

// ran checks what doing a statement led to.
func (x trial) ran(what string, stmt api.Stmt, s eval.State, puts []eval.Put, e api.Errno) {
	x.Helper()
	m, mem := x.model(), memoryOf(x.s)
	want := guarded(func() { m.do(mem, stmt) })
	x.ended[e]++
	if want != api.OK {
		if e != want || !isNone(s, puts) {
			x.Errorf("%s: error %d, not %d: %+v", what, e, want, stmt)
		}
		return
	}
	after := stateOf(x.d, x.s.Now, mem)
	if e != api.OK || !sameState(s, after) || !samePuts(puts, m.puts) {
		x.Errorf("%s: %v %+v, error %d, not %v %+v: %+v", what, s, puts, e, after, m.puts, stmt)
	}
}

// P9.3 to P9.9: values, places, choices and runs against the model.
func TestAgainstModel(t *testing.T) {
	var ended map[api.Errno]int
	trials(t, 500, false, func(x trial) {
		ended = x.ended
		before := copyOf(x.s)
		for range 6 {
			x.checkValue()
			x.checkStatement()
		}
		for i, p := range x.d.Procs {
			s, puts, e := x.m.Body(x.s, i)
			x.ran("Body", p.Body, s, puts, e)
		}
		if !sameState(x.s, before) {
			x.Error("the state was changed")
		}
	})
	for _, e := range []api.Errno{api.OK, api.ErrLarge, api.ErrState} {
		if ended[e] < 50 {
			t.Errorf("error %d came %d times", e, ended[e])
		}
	}
}

// checkValue checks the value of a random expression.
func (x trial) checkValue() {
	x.Helper()
	e := x.expr(x.width(), 4)
	m, want := x.model(), ""
	fault := guarded(func() { want = m.value(memoryOf(x.s), e) })
	b, err := x.m.Value(x.s, e)
	if err != fault || err == api.OK && b != vec(want) || err != api.OK && b != (api.Bits{}) {
		x.Errorf("%q, error %d, not %q, error %d: %+v", show(b), err, want, fault, e)
	}
}

// checkStatement checks a random statement with Do, Places and Choice.
func (x trial) checkStatement() {
	x.Helper()
	stmt := x.stmt(4)
	if e := design.CheckStmt(x.d, stmt, true); e != api.OK {
		x.Fatalf("statement with the error %d: %+v", e, stmt)
	}
	s, puts, e := x.m.Do(x.s, stmt)
	x.ran("Do", stmt, s, puts, e)
	m, mem := x.model(), memoryOf(x.s)
	k, want := 0, 0
	k, e = x.m.Choice(x.s, stmt)
	if stmt.Op != api.Case {
		if k != 0 || e != api.ErrType {
			x.Errorf("Choice: %d, error %d: %+v", k, e, stmt)
		}
	} else if fault := guarded(func() { want = m.choice(mem, stmt) }); k != want || e != fault {
		x.Errorf("Choice: %d, error %d, not %d, error %d: %+v", k, e, want, fault, stmt)
	}
	b := x.vector(max(1, stmt.To.W))
	l, e := x.m.Places(x.s, stmt, b)
	if stmt.Op != api.Set && stmt.Op != api.Put {
		if len(l) > 0 || e != api.ErrType {
			x.Errorf("Places: %v, error %d: %+v", l, e, stmt)
		}
		return
	}
	var places []eval.Put
	if fault := guarded(func() { places = m.places(mem, stmt.To, show(b)) }); !samePuts(l, places) || e != fault {
		x.Errorf("Places: %v, error %d, not %v, error %d: %+v", l, e, places, fault, stmt)
	}
}

// P9.11: in known states, with indices that exist and divisors that are not 0, everything is known.
func TestKnownStates(t *testing.T) {
	done := 0
	trials(t, 250, true, func(x trial) {
		before := copyOf(x.s)
		for range 5 {
			e := x.expr(x.width(), 4)
			newModel(x.d, x.seen).probe(x.s, func(m *model, mem memory) { m.value(mem, e) })
			if b, err := x.m.Value(x.s, e); err == api.OK && !bits.Known(b) {
				x.Errorf("%q: %+v", show(b), e)
			}
			stmt := x.stmt(4)
			newModel(x.d, x.seen).probe(x.s, func(m *model, mem memory) { m.do(mem, stmt) })
			s, puts, err := x.m.Do(x.s, stmt)
			if err == api.OK {
				done++
			}
			for _, list := range s.Sigs {
				for _, b := range list {
					if !bits.Known(b) {
						x.Errorf("%q: %+v", show(b), stmt)
					}
				}
			}
			for _, p := range puts {
				if !bits.Known(p.B) {
					x.Errorf("%+v: %+v", p, stmt)
				}
			}
		}
		if !sameState(x.s, before) {
			x.Error("the state was changed")
		}
	})
	if done < 500 {
		t.Errorf("%d statements were done", done)
	}
}

// probe runs f with the model, only to see which operations there are.
func (m *model) probe(s eval.State, f func(m *model, mem memory)) {
	m.now = s.Now
	guarded(func() { f(m, memoryOf(s)) })
}

// P9.11: elements that are not read do not matter.
func TestUnreadElements(t *testing.T) {
	m := machine(t, base())
	s := m.Start()
	s.Sigs[sigM][1], s.Sigs[sigA][0] = vec("0110"), vec("0001")
	if b, e := m.Value(s, op(api.Add, 4, elem(sigM, 4, ref(sigA, 4)), num(4, 3))); b != vec("1001") || e != api.OK {
		t.Error(b, e)
	}
	if b, e := m.Value(s, elem(sigM, 4, num(4, 3))); b != vec("xxxx") || e != api.OK {
		t.Error(b, e)
	}
}
