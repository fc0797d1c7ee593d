package eval_test

import (
	"math"
	"reflect"
	"testing"

	"maskwright/api"
	"maskwright/design"
	"maskwright/eval"
)

// P9.1: New has the errors of design.Check, and returns the zero Machine with them.
func TestNew(t *testing.T) {
	for i, change := range []func(d *api.Design){
		func(d *api.Design) {},
		func(d *api.Design) { d.Name = "" },
		func(d *api.Design) { *d = api.Design{} },
		func(d *api.Design) { d.Signals = make([]api.Signal, api.MaxSignals+1) },
		func(d *api.Design) { d.Signals[sigB].Elems = 33 },
		func(d *api.Design) { d.Signals[sigV].Init[0].W = 3 },
		func(d *api.Design) { d.Funcs[funcBoth].Body.Kids[0].Args[0].At = funcBoth },
		func(d *api.Design) { d.Procs[0].Body.To.Sig = 99 },
		func(d *api.Design) { d.Procs[1].Name = "p." },
		func(d *api.Design) { d.Signals[1].Name = "a" },
		func(d *api.Design) { d.Procs[2].Kind = api.Cont },
		func(d *api.Design) { d.Procs[3].Kind = api.Comb },
	} {
		d := base()
		change(&d)
		want := design.Check(d)
		m, e := eval.New(d)
		if (want == api.OK) != (i == 0) || e != want {
			t.Errorf("design %d: %d, not %d", i, e, want)
		}
		if e != api.OK && !reflect.DeepEqual(m, eval.Machine{}) {
			t.Errorf("design %d: a machine with the error %d", i, e)
		}
	}
}

// P9.1: what a state begins with.
func TestStart(t *testing.T) {
	d := base()
	m := machine(t, d)
	var got [][]string
	s := m.Start()
	for _, list := range s.Sigs {
		var texts []string
		for _, b := range list {
			texts = append(texts, show(b))
		}
		got = append(got, texts)
	}
	x64 := show(api.Bits{W: 64, V: math.MaxUint64, X: math.MaxUint64})
	want := [][]string{{"xxxx"}, {"x"}, {"xxxx"}, {"1001"}, {"xxxx", "xxxx", "xxxx"}, {"xxxxxxxx"}, {"xxxx", "xxxx"}, {"01", "xx", "z0"}, {x64}}
	if !reflect.DeepEqual(got, want) || s.Now != 0 {
		t.Error(got, s.Now)
	}
	if e := m.Check(s); e != api.OK {
		t.Error(e)
	}
	s.Sigs[sigN][0], s.Sigs[sigM][1] = vec("10"), vec("1111")
	if again := m.Start(); again.Sigs[sigN][0] != vec("01") || again.Sigs[sigM][1] != vec("xxxx") || d.Signals[sigN].Init[0] != vec("01") {
		t.Error("Start gives memory away that it uses again")
	}
}

// P9.1: a machine without a design.
func TestZeroMachine(t *testing.T) {
	var m eval.Machine
	if s := m.Start(); len(s.Sigs) > 0 || s.Now != 0 {
		t.Error(s)
	}
	for _, s := range []eval.State{{}, known()} {
		if e := m.Check(s); e != api.ErrState {
			t.Error("Check", e)
		}
		if b, e := m.Value(s, num(1, 1)); b != (api.Bits{}) || e != api.ErrState {
			t.Error("Value", b, e)
		}
		if l, e := m.Places(s, set(ref(sigV, 4), num(4, 1)), vec("0001")); len(l) > 0 || e != api.ErrState {
			t.Error("Places", l, e)
		}
		if k, e := m.Choice(s, choice(api.Exact, num(1, 1))); k != 0 || e != api.ErrState {
			t.Error("Choice", k, e)
		}
		if x, puts, e := m.Do(s, api.Stmt{}); !isNone(x, puts) || e != api.ErrState {
			t.Error("Do", x, puts, e)
		}
		if x, puts, e := m.Body(s, 0); !isNone(x, puts) || e != api.ErrState {
			t.Error("Body", x, puts, e)
		}
	}
}

// badStates returns states that are not those of the base design.
func badStates() []eval.State {
	var list []eval.State
	for _, change := range []func(s *eval.State){
		func(s *eval.State) { s.Sigs = nil },
		func(s *eval.State) { s.Sigs = s.Sigs[:sigT] },
		func(s *eval.State) { s.Sigs = append(s.Sigs, nil) },
		func(s *eval.State) { s.Sigs = append(s.Sigs, []api.Bits{{W: 1}}) },
		func(s *eval.State) { s.Sigs[sigA] = nil },
		func(s *eval.State) { s.Sigs[sigT] = []api.Bits{} },
		func(s *eval.State) { s.Sigs[sigM] = s.Sigs[sigM][:2] },
		func(s *eval.State) { s.Sigs[sigM] = append(s.Sigs[sigM], vec("0000")) },
		func(s *eval.State) { s.Sigs[sigA][0] = vec("00000") },
		func(s *eval.State) { s.Sigs[sigM][2] = vec("000") },
		func(s *eval.State) { s.Sigs[sigM][1] = api.Bits{} },
		func(s *eval.State) { s.Sigs[sigM][2] = api.Bits{W: 4, V: 16} },
		func(s *eval.State) { s.Sigs[sigB][1] = api.Bits{W: 4, X: 16} },
		func(s *eval.State) { s.Sigs[sigT][0] = api.Bits{W: 65} },
		func(s *eval.State) { s.Sigs[sigA], s.Sigs[sigC] = s.Sigs[sigC], s.Sigs[sigA] },
	} {
		s := known()
		change(&s)
		list = append(list, s)
	}
	return list
}

// P9.2: which states are valid.
func TestCheck(t *testing.T) {
	m := machine(t, base())
	s := known()
	s.Sigs[sigM][1], s.Sigs[sigA][0] = vec("01xz"), vec("zzzz")
	for _, now := range []uint64{0, 5, math.MaxUint64} {
		s.Now = now
		if e := m.Check(s); e != api.OK {
			t.Error(now, e)
		}
	}
	for i, s := range badStates() {
		before := copyOf(s)
		if e := m.Check(s); e != api.ErrForm {
			t.Errorf("state %d: %d", i, e)
		}
		if !sameState(s, before) {
			t.Errorf("state %d was changed", i)
		}
	}
	empty := machine(t, api.Design{Name: "d"})
	if e := empty.Check(empty.Start()); e != api.OK {
		t.Error(e)
	}
	if e := empty.Check(eval.State{Sigs: [][]api.Bits{nil}}); e != api.ErrForm {
		t.Error(e)
	}
}

// P9.2: Clone of any states.
func TestClone(t *testing.T) {
	for i, s := range append(badStates(), known(), eval.State{}, eval.State{Now: 7, Sigs: [][]api.Bits{nil, {}, {{W: -1, V: 3, X: 9}}}}) {
		before := copyOf(s)
		c := eval.Clone(s)
		if !sameState(c, before) || !sameState(s, before) {
			t.Errorf("state %d: %v", i, c)
		}
		for k := range c.Sigs {
			for j := range c.Sigs[k] {
				c.Sigs[k][j].V++
			}
			c.Sigs[k] = append(c.Sigs[k], api.Bits{W: 1})
			c.Sigs[k] = nil
		}
		if !sameState(s, before) {
			t.Errorf("state %d shares memory with its clone", i)
		}
	}
}

// P9.2: Apply puts bits into elements.
func TestApply(t *testing.T) {
	s := known()
	for _, r := range []struct {
		p    eval.Put
		want string // the value of the element
	}{
		{eval.Put{Sig: sigA, B: vec("1100")}, "1100"},
		{eval.Put{Sig: sigM, Elem: 2, At: 1, B: vec("xz")}, "0xz1"},
		{eval.Put{Sig: sigM, Elem: 1, At: 3, B: vec("1111")}, "1010"},
		{eval.Put{Sig: sigM, Elem: 1, At: -1, B: vec("111")}, "0011"},
		{eval.Put{Sig: sigM, Elem: 1, At: -3, B: vec("111")}, "0010"},
		{eval.Put{Sig: sigM, Elem: 1, At: 4, B: vec("111")}, "0010"},
		{eval.Put{Sig: sigM, Elem: 1, At: 4, B: api.Bits{W: 64, V: math.MaxUint64}}, "0010"},
		{eval.Put{Sig: sigM, Elem: 1, At: math.MinInt, B: vec("111")}, "0010"},
		{eval.Put{Sig: sigM, Elem: 1, At: math.MaxInt, B: vec("111")}, "0010"},
		{eval.Put{Sig: sigM, Elem: 1, At: -60, B: api.Bits{W: 64, V: math.MaxUint64}}, "1111"},
		{eval.Put{Sig: sigM, Elem: 1, B: vec("1111"), After: 9}, "1111"},
		{eval.Put{Sig: sigM, Elem: 1}, "0010"},
		{eval.Put{Sig: sigM, Elem: 1, B: api.Bits{W: 4, V: 16}}, "0010"},
		{eval.Put{Sig: sigM, Elem: 1, B: api.Bits{W: 65}}, "0010"},
	} {
		want := copyOf(s)
		want.Sigs[r.p.Sig][r.p.Elem] = vec(r.want)
		got := eval.Apply(s, r.p)
		if !sameState(got, want) || !sameState(s, known()) {
			t.Errorf("%+v: %v", r.p, got.Sigs[r.p.Sig])
		}
	}
}

// P9.2: Apply changes nothing if there is no such element, or it is not valid.
func TestApplyWithoutElement(t *testing.T) {
	s := known()
	s.Sigs[sigM][1], s.Sigs[sigB][0], s.Sigs[sigW] = api.Bits{W: 4, V: 99}, api.Bits{}, nil
	before := copyOf(s)
	for _, p := range []eval.Put{
		{Sig: -1}, {Sig: sigT + 1}, {Sig: math.MinInt}, {Sig: math.MaxInt}, {Sig: sigM, Elem: -1}, {Sig: sigM, Elem: 3}, {Sig: sigM, Elem: math.MaxInt},
		{Sig: sigM, Elem: math.MinInt}, {Sig: sigM, Elem: 1}, {Sig: sigB}, {Sig: sigW},
	} {
		p.B = vec("10")
		got := eval.Apply(s, p)
		if !sameState(got, before) || !sameState(s, before) {
			t.Errorf("%+v: %v", p, got)
		}
		got.Sigs[sigA][0] = vec("1111")
		got.Sigs[sigN] = nil
		if !sameState(s, before) {
			t.Fatalf("%+v: memory is shared", p)
		}
	}
	if got := eval.Apply(eval.State{}, eval.Put{B: vec("1")}); len(got.Sigs) > 0 {
		t.Error(got)
	}
}

// P9.11: results share no memory with the state that is passed.
func TestResultsAreNewMemory(t *testing.T) {
	d := base()
	d.Procs[api.Initial].Body = put(ref(sigV, 4), num(4, 1))
	m, s := machine(t, d), known()
	spoil := func(x eval.State, puts []eval.Put) {
		for i := range x.Sigs {
			x.Sigs[i] = append(x.Sigs[i], vec("1"))
			for k := range x.Sigs[i] {
				x.Sigs[i][k] = vec("xz")
			}
			x.Sigs[i] = nil
		}
		for i := range puts {
			puts[i] = eval.Put{}
		}
	}
	for range 2 {
		x, puts, e := m.Do(s, put(ref(sigV, 4), num(4, 1)))
		if e != api.OK || !sameState(x, known()) || !samePuts(puts, []eval.Put{{Sig: sigV, B: vec("0001")}}) {
			t.Error("Do", x, puts, e)
		}
		spoil(x, puts)
		x, puts, e = m.Body(s, api.Initial)
		if e != api.OK || !sameState(x, known()) || !samePuts(puts, []eval.Put{{Sig: sigV, B: vec("0001")}}) {
			t.Error("Body", x, puts, e)
		}
		spoil(x, puts)
	}
	if !sameState(s, known()) {
		t.Error("the state was changed")
	}
}
