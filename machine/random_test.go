package machine_test

import (
	"fmt"
	"math/rand"
	"reflect"
	"slices"
	"strings"
	"testing"

	"maskwright/api"
	"maskwright/bits"
	"maskwright/design"
	"maskwright/eval"
	"maskwright/lint"
	"maskwright/machine"
)

// free returns the free bits of a register, in order.
func (s source) free(r *register) []string {
	var list []string
	for _, name := range s.bits {
		own := name == r.name || strings.HasPrefix(name, r.name+"[")
		if s.procs[r.proc].reads[name] && !own {
			list = append(list, name)
		}
	}
	return list
}

// put gives a bit a value.
func (now values) put(name string, bit uint64) {
	at := 0
	if i := strings.IndexByte(name, '['); i >= 0 {
		fmt.Sscanf(name[i:], "[%d]", &at)
		name = name[:i]
	}
	now[name] = now[name]&^(1<<at) | bit<<at
}

// machine returns the text of the machine that a register is; nothing if it is none.
func (s source) machine(random *rand.Rand, r *register) string {
	free := s.free(r)
	if !r.constant || r.w > machine.MaxBits || len(free) > machine.MaxFree {
		return ""
	}
	states := []uint64{r.init}
	var edges []string
	for i := 0; i < len(states); i++ {
		least := map[uint64]int{}
		for n := 1<<len(free) - 1; n >= 0; n-- {
			now, later := values{}, values{}
			// All bits that are not free can have any values.
			for _, name := range s.bits {
				now.put(name, random.Uint64()&1)
			}
			now[r.name] = states[i]
			for k, name := range free {
				now.put(name, uint64(n)>>k&1)
			}
			s.procs[r.proc].do(now, later)
			to, ok := later[r.name]
			if !ok {
				to = states[i]
			}
			least[to] = n
		}
		for to := range mask(r.w) + 1 {
			n, ok := least[to]
			if !ok {
				continue
			}
			edges = append(edges, fmt.Sprint(states[i], ">", to, ":", n))
			if !slices.Contains(states, to) {
				states = append(states, to)
			}
		}
	}
	return fmt.Sprint(r.name, " p", 1+r.proc, " ", free, " ", states, " ", edges)
}

// sort puts bits and registers into the order that the signals of a design have.
func (s *source) sort(d api.Design) {
	s.bits = nil
	for _, x := range d.Signals {
		s.bits = append(s.bits, design.Bits(x)...)
	}
	slices.SortFunc(s.registers, func(a, b *register) int { return index(d, a.name) - index(d, b.name) })
}

// shuffle gives the signals of a design other numbers.
func shuffle(random *rand.Rand, d *api.Design) {
	to := random.Perm(len(d.Signals))
	list := make([]api.Signal, len(to))
	for i, k := range to {
		list[k] = d.Signals[i]
	}
	d.Signals = list
	eachNode(d, func(x any) bool {
		switch x := x.(type) {
		case *api.Expr:
			if (x.Op == api.Ref || x.Op == api.Elem) && !x.Local {
				x.Sig = to[x.Sig]
			}
		case *api.Edge:
			x.Sig = to[x.Sig]
		case *api.Prop:
			x.Clock = to[x.Clock]
		}
		return true
	})
}

// P16.1 to P16.3: machines of random sources.
func TestRandomMachines(t *testing.T) {
	machines, large, states := 0, 0, 0
	for seed := range int64(800) {
		s := grown(seed)
		d := built(t, s.text)
		random := rand.New(rand.NewSource(seed))
		shuffle(random, &d)
		s.sort(d)
		var want []string
		for _, r := range s.registers {
			if x := s.machine(random, r); x != "" {
				want = append(want, x)
				machines++
				states = max(states, strings.Count(x, ">"))
			} else if r.constant && r.w <= machine.MaxBits {
				large++
			}
		}
		if got := found(t, d); got != strings.Join(want, "; ") {
			t.Fatalf("%d\n%s\n%s\nnot\n%s", seed, s.text, got, strings.Join(want, "\n"))
		}
	}
	if machines < 500 || large < 100 || states < 20 {
		t.Error(machines, large, states)
	}
}

// recoding is a random recoding of a machine of a random design.
type recoding struct {
	d     api.Design
	m     machine.Machine
	codes []uint64
	w     int
	to    api.Design
}

// recodings returns random recodings.
func recodings(t *testing.T, seeds int64) []recoding {
	t.Helper()
	var list []recoding
	for seed := range seeds {
		random := rand.New(rand.NewSource(seed))
		d := built(t, grown(seed).text)
		shuffle(random, &d)
		elements(random, &d)
		l, e := machine.Find(d)
		if e != api.OK {
			t.Fatal(seed, e)
		}
		for _, m := range l {
			x := recoding{d: d, m: m}
			x.codes, x.w = anyCodes(random, len(m.States))
			x.to, e = machine.Recode(d, m.Sig, x.codes, x.w)
			if e != api.OK && design.Check(x.model()) != e {
				t.Fatal(seed, e)
			}
			if e == api.OK {
				list = append(list, x)
			}
		}
	}
	if len(list) < int(seeds)/3 {
		t.Fatal(len(list))
	}
	return list
}

// anyCodes returns codes for some states, and their width.
func anyCodes(random *rand.Rand, n int) ([]uint64, int) {
	switch random.Intn(4) {
	case 0:
		return machine.Binary(n)
	case 1:
		return machine.Gray(n)
	case 2:
		return machine.OneHot(n)
	}
	w := 3 + random.Intn(10)
	for range random.Intn(2) {
		w = api.MaxWidth
	}
	var codes []uint64
	for len(codes) < n {
		if c := random.Uint64() >> (64 - w); !slices.Contains(codes, c) {
			codes = append(codes, c)
		}
		w = min(w+1, 64)
	}
	return codes, w
}

// elements makes Elems of some Refs of variables that processes read.
func elements(random *rand.Rand, d *api.Design) {
	eachNode(d, func(x any) bool {
		switch x := x.(type) {
		case *api.Func:
			return false
		case *api.Stmt:
			for i := range x.Args {
				eachNode(&x.Args[i], func(x any) bool {
					if e, ok := x.(*api.Expr); ok && e.Op == api.Ref && d.Signals[e.Sig].Kind == api.Var && random.Intn(3) == 0 {
						*e = elem(e.Sig, e.W, num(1+random.Intn(64), 0))
					}
					return true
				})
			}
		}
		return true
	})
}

// model returns the recoded design: it looks at everything in a copy by reflection.
func (x recoding) model() api.Design {
	d := copyOf(x.d, 0)
	s := &d.Signals[x.m.Sig]
	old := *s
	code := func(n uint64) api.Expr {
		c := x.codes[0]
		for i, state := range x.m.States {
			if state == n {
				c = x.codes[i]
			}
		}
		return num(x.w, c)
	}
	choice := func() api.Expr {
		e := num(old.W, x.m.States[0])
		for i := len(x.m.States) - 1; i > 0; i-- {
			is := op(api.Eq, 1, ref(x.m.Sig, x.w), num(x.w, x.codes[i]))
			e = op(api.Cond, old.W, is, num(old.W, x.m.States[i]), e)
		}
		return e
	}
	s.W, s.Init = x.w, []api.Bits{code(old.Init[0].V).N}
	eachNode(&d, func(p any) bool {
		switch p := p.(type) {
		case *api.Stmt:
			if p.Op == api.Put && p.To.Op == api.Ref && p.To.Sig == x.m.Sig {
				p.To.W, p.Args[0] = x.w, code(p.Args[0].N.V)
				return false
			}
		case *api.Expr:
			if (p.Op == api.Ref || p.Op == api.Elem) && !p.Local && p.Sig == x.m.Sig {
				*p = choice()
				return false
			}
		}
		return true
	})
	return d
}

// P16.5: recoded designs.
func TestRandomRecodings(t *testing.T) {
	changed := 0
	for i, x := range recodings(t, 600) {
		want := x.model()
		if !equal(x.to, want) {
			t.Fatalf("%d: %v\nnot\n%v", i, x.to, want)
		}
		if nodes(x.to) > nodes(x.d) {
			changed++
		}
		if r, e := lint.Accept(x.to); e != api.OK || !r.OK {
			t.Fatal(i, r, e)
		}
	}
	if changed < 100 {
		t.Error(changed)
	}
}

// runner runs an accepted design, cycle by cycle.
type runner struct {
	d      api.Design
	m      eval.Machine
	report lint.Report
	now    eval.State
}

// newRunner returns a runner at the beginning.
func newRunner(t *testing.T, d api.Design) *runner {
	t.Helper()
	m, e := eval.New(d)
	report, _ := lint.Accept(d)
	if e != api.OK || !report.OK {
		t.Fatal(e, report)
	}
	return &runner{d, m, report, m.Start()}
}

// body does the body of a process, and returns what it puts.
func (r *runner) body(i int) []eval.Put {
	after, puts, e := r.m.Body(r.now, i)
	if e != api.OK {
		panic(e)
	}
	if r.d.Procs[i].Kind != api.Seq {
		r.now = after
	}
	return puts
}

// seq makes the assignments of all Seq processes for which a condition holds, at once.
func (r *runner) seq(condition func(p api.Proc) bool) {
	var all []eval.Put
	for i, p := range r.d.Procs {
		if p.Kind == api.Seq && condition(p) {
			all = append(all, r.body(i)...)
		}
	}
	for _, p := range all {
		r.now = eval.Apply(r.now, p)
	}
}

// isActive reports whether a process has a reset that is active.
func (r *runner) isActive(p api.Proc) bool {
	if len(p.Edges) < 2 {
		return false
	}
	return bits.True(r.now.Sigs[p.Edges[1].Sig][0]) == int(truth(p.Edges[1].Kind == api.Rise))
}

// cycle runs a cycle up to its edge, and returns the outputs.
func (r *runner) cycle(inputs map[int]uint64) []api.Bits {
	for i, n := range inputs {
		r.now.Sigs[i][0] = bits.Of(r.d.Signals[i].W, n)
	}
	r.seq(r.isActive)
	for _, i := range r.report.Order {
		r.body(i)
	}
	_, out := design.Ports(r.d)
	var list []api.Bits
	for _, i := range out {
		list = append(list, r.now.Sigs[i][0])
	}
	return list
}

// edge ends a cycle.
func (r *runner) edge() {
	r.seq(func(api.Proc) bool { return true })
}

// inputs returns random values of the inputs of a design, of which the reset mostly has one value.
func inputs(random *rand.Rand, d api.Design, reset uint64) map[int]uint64 {
	in, _ := design.Ports(d)
	list := map[int]uint64{}
	for _, i := range in {
		switch name := d.Signals[i].Name; {
		case name == "rst" && random.Intn(8) > 0:
			list[i] = reset
		case name != "clk":
			list[i] = random.Uint64()
		}
	}
	return list
}

// P16.6: registers of machines have their states and go along their edges, and recoded designs have the same outputs.
func TestRuns(t *testing.T) {
	outputs, moves := map[api.Bits]bool{}, 0
	for i, x := range recodings(t, 400) {
		random := rand.New(rand.NewSource(int64(i)))
		a, b := newRunner(t, x.d), newRunner(t, x.to)
		state := func() uint64 {
			v := a.now.Sigs[x.m.Sig][0]
			if !bits.Known(v) || !slices.Contains(x.m.States, v.V) {
				t.Fatal(i, v, x.m)
			}
			return v.V
		}
		before := x.m.States[0]
		for cycle := range 60 {
			in := inputs(random, x.d, uint64(i&1))
			p, q := a.cycle(in), b.cycle(in)
			if !slices.Equal(p, q) {
				t.Fatalf("%d, cycle %d: %v, not %v\n%v", i, cycle, q, p, x)
			}
			outputs[p[0]] = true
			after := state()
			isEdge := slices.ContainsFunc(x.m.Edges, func(e machine.Edge) bool { return e.From == before && e.To == after })
			if cycle > 0 && !isEdge {
				t.Fatalf("%d, cycle %d: from %d to %d\n%v", i, cycle, before, after, x.m)
			}
			if before != after {
				moves++
			}
			code := x.codes[slices.Index(x.m.States, after)]
			if got := b.now.Sigs[x.m.Sig][0]; got != bits.Of(x.w, code) {
				t.Fatal(i, cycle, got, code)
			}
			before = after
			a.edge()
			b.edge()
		}
	}
	if len(outputs) < 100 || moves < 1000 {
		t.Error(len(outputs), moves)
	}
}

// Z2: arguments are not changed, the same call has the same result, and no two slices of results and arguments share memory.
func TestMemory(t *testing.T) {
	for i, x := range recodings(t, 150) {
		// What lies behind the lengths of slices does not matter, and is not used.
		d, codes := copyOf(x.d, 3), copyOf(x.codes, 3)
		a, _ := machine.Find(d)
		b, _ := machine.Find(d)
		p, _ := machine.Recode(d, x.m.Sig, codes, x.w)
		q, _ := machine.Recode(d, x.m.Sig, codes, x.w)
		if !equal(d, x.d) || !slices.Equal(codes, x.codes) {
			t.Fatal(i, d)
		}
		if !equal(a, b) || !equal(p, q) || !equal(p, x.to) {
			t.Fatal(i, a, b, p, q)
		}
		if share(d, codes, a, b, p, q) {
			t.Fatal(i)
		}
	}
}

// Z1: trees of 1000 levels and of many nodes, and designs as large as they can be.
func TestLargeDesigns(t *testing.T) {
	deep, body := num(1, 0), api.Stmt{}
	for range 999 {
		deep = op(api.LNot, 1, deep)
		body = api.Stmt{Op: api.Block, Kids: []api.Stmt{body}}
	}
	wide := op(api.Cat, 64)
	wide.Kids = make([]api.Expr, 99_999)
	base := full(t)
	for i, change := range []func(d *api.Design){
		func(d *api.Design) { d.Procs[1].Body.Args[0] = deep },
		func(d *api.Design) { d.Procs[1].Body.To = deep },
		func(d *api.Design) { d.Procs[0].Body = body },
		func(d *api.Design) { d.Procs[0].Body.Kids = make([]api.Stmt, 99_999) },
		func(d *api.Design) { d.Procs[1].Body.To = wide },
	} {
		d := copyOf(base, 0)
		change(&d)
		l, e := machine.Find(d)
		if e != api.ErrLarge || len(l) > 0 {
			t.Error(i, l, e)
		}
		if x, e := machine.Recode(d, stateSig, []uint64{1, 2, 0}, 2); e != api.ErrLarge || !reflect.DeepEqual(x, api.Design{}) {
			t.Error(i, x, e)
		}
	}
	if _, e := machine.Recode(base, stateSig, make([]uint64, 100_000), 2); e != api.ErrForm {
		t.Error(e)
	}
	// A machine with all states beside as many other signals as there can be.
	d := api.Design{Name: "d", Signals: []api.Signal{
		{Name: "clk", Port: api.In, W: 1, Elems: 1}, {Name: "a", Port: api.In, W: 5, Elems: 1}, {Name: "s", Kind: api.Var, W: 5, Elems: 1, Init: []api.Bits{{W: 5, V: 7}}}, {Name: "q", Port: api.Out, W: 5, Elems: 1},
	}}
	for i := range api.MaxSignals - 4 {
		d.Signals = append(d.Signals, api.Signal{Name: fmt.Sprint("w", i), W: 64, Elems: 32})
	}
	var list []api.Item
	for i := range uint64(32) {
		list = append(list, api.Item{Match: []api.Expr{num(5, i)}, Do: api.Stmt{Op: api.Put, To: ref(2, 5), Args: []api.Expr{num(5, i)}}})
	}
	d.Procs = []api.Proc{
		{Name: "p", Kind: api.Seq, Edges: []api.Edge{{Kind: api.Rise}}, Body: api.Stmt{Op: api.Case, Args: []api.Expr{ref(1, 5)}, Items: list}},
		{Name: "q", Body: api.Stmt{Op: api.Set, To: ref(3, 5), Args: []api.Expr{ref(2, 5)}}},
	}
	l, e := machine.Find(d)
	if e != api.OK || len(l) != 1 || len(l[0].States) != 32 || len(l[0].Edges) != 32*32 {
		t.Fatal(l, e)
	}
	// 31 choices within each other fit, but not with more levels around them.
	for _, codes := range []func(int) ([]uint64, int){machine.Binary, machine.Gray, machine.OneHot} {
		c, w := codes(32)
		if x, e := machine.Recode(d, 2, c, w); e != api.OK || x.Signals[2].W != w {
			t.Error(e)
		}
	}
	for range 10 {
		d.Procs[1].Body.Args[0] = op(api.Not, 5, d.Procs[1].Body.Args[0])
	}
	if _, e := machine.Recode(d, 2, l[0].States, 5); e != api.ErrLarge {
		t.Error(e)
	}
}
