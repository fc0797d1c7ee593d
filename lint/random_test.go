package lint_test

import (
	"fmt"
	"math/rand"
	"reflect"
	"slices"
	"testing"

	"maskwright/api"
	"maskwright/bits"
	"maskwright/design"
	"maskwright/eval"
	"maskwright/lint"
)

// P13.1 to P13.12: designs that keep all rules are accepted.
func TestGrownDesigns(t *testing.T) {
	for seed := range int64(500) {
		d := grown(seed, 0)
		if e := design.Check(d); e != api.OK {
			t.Fatal(seed, e)
		}
		if r := agrees(t, fmt.Sprint(seed), d); !r.OK {
			t.Fatal(seed, says(t, d))
		}
	}
}

// P13.1 to P13.12: designs that break some rules, against the model.
func TestWildDesigns(t *testing.T) {
	found := map[int]int{}
	for seed := range int64(1200) {
		d := grown(seed, 4+int(seed)%150)
		if e := design.Check(d); e != api.OK {
			t.Fatal(seed, e)
		}
		for _, x := range agrees(t, fmt.Sprint(seed), d).Reasons {
			found[x.Rule]++
		}
	}
	for rule, name := range ruleNames {
		if found[rule] < 10 {
			t.Errorf("the rule %s was broken %d times", name, found[rule])
		}
	}
}

// spoil changes something in a design.
func spoil(r *rand.Rand, d *api.Design) {
	var list []reflect.Value
	eachLeaf(reflect.ValueOf(d).Elem(), "", func(v reflect.Value, field string) {
		if field != "Name" && field != "Line" {
			list = append(list, v)
		}
	})
	v := list[r.Intn(len(list))]
	switch v.Kind() {
	case reflect.Int:
		numbers := []int64{v.Int() + 1, v.Int() - 1, 0, 1, 2, 3, int64(r.Intn(40))}
		v.SetInt(numbers[r.Intn(len(numbers))])
	case reflect.Uint64:
		v.SetUint(v.Uint() ^ 1<<r.Intn(4))
	case reflect.Bool:
		v.SetBool(!v.Bool())
	case reflect.Slice:
		n := v.Len()
		if n == 0 {
			return
		}
		i, k := r.Intn(n), r.Intn(n)
		x, y := reflect.New(v.Type().Elem()).Elem(), reflect.New(v.Type().Elem()).Elem()
		copyInto(x, v.Index(i), 0)
		copyInto(y, v.Index(k), 0)
		switch r.Intn(4) {
		case 0:
			v.Set(v.Slice(0, n-1))
		case 1:
			v.Set(reflect.Append(v.Slice3(0, n, n), x))
		case 2:
			v.Index(i).Set(y)
		case 3:
			v.Index(i).Set(y)
			v.Index(k).Set(x)
		}
	}
}

// swap exchanges or copies expressions or statements of a design.
func swap(r *rand.Rand, d *api.Design) {
	var exprs []*api.Expr
	var stmts []*api.Stmt
	for i := range d.Procs {
		stmts = append(stmts, &d.Procs[i].Body)
	}
	eachLeaf(reflect.ValueOf(d).Elem(), "", func(v reflect.Value, _ string) {
		switch x := v.Addr().Interface().(type) {
		case *[]api.Expr:
			for i := range *x {
				exprs = append(exprs, &(*x)[i])
			}
		case *[]api.Stmt:
			for i := range *x {
				stmts = append(stmts, &(*x)[i])
			}
		case *[]api.Item:
			for i := range *x {
				stmts = append(stmts, &(*x)[i].Do)
			}
		}
	})
	if r.Intn(3) == 0 {
		x, y := stmts[r.Intn(len(stmts))], stmts[r.Intn(len(stmts))]
		*x = copyOf(*y, 0)
		return
	}
	for range 30 {
		x, y := exprs[r.Intn(len(exprs))], exprs[r.Intn(len(exprs))]
		if x.W == y.W && x != y {
			*x = copyOf(*y, 0)
			return
		}
	}
}

// P13.1 to P13.12, Z1, Z3: designs that keep all rules, in which something was changed, against the model.
func TestSpoiledDesigns(t *testing.T) {
	alone, errors := map[int]int{}, map[api.Errno]int{}
	for seed := range int64(250) {
		r := rand.New(rand.NewSource(seed))
		good := grown(seed, 0)
		for i := range 12 {
			d := copyOf(good, 0)
			for range 1 + r.Intn(2) {
				if i%2 == 0 {
					swap(r, &d)
				} else {
					spoil(r, &d)
				}
			}
			want := design.Check(d)
			errors[want]++
			if want == api.OK {
				if x := agrees(t, fmt.Sprint(seed, " ", i), d); len(x.Reasons) == 1 {
					alone[x.Reasons[0].Rule]++
				}
				continue
			}
			x, e := lint.Accept(d)
			if e != want || !reflect.DeepEqual(x, lint.Report{}) || len(lint.Registers(d)) > 0 {
				t.Fatalf("%d, %d: %v, error %d, not %d", seed, i, x, e, want)
			}
		}
	}
	if len(errors) < 8 || errors[api.OK] < 800 {
		t.Error(errors)
	}
	for rule, name := range ruleNames {
		if alone[rule] == 0 && rule != lint.Kind && rule != lint.Size {
			t.Errorf("the rule %s alone was not broken", name)
		}
	}
}

// vector returns a vector that is known, or any one.
func vector(r *rand.Rand, w int, known bool) api.Bits {
	b := api.Bits{W: w, V: r.Uint64() >> (64 - w)}
	if !known {
		b.X = r.Uint64() >> (64 - w)
	}
	return b
}

// settling is a random order of runs of the processes that settle, of which the last ones keep the order that they must.
func settling(r *rand.Rand, d api.Design) []int {
	table := newJudge(d).before(false)
	var all, last []int
	for i, p := range d.Procs {
		if p.Kind == api.Cont || p.Kind == api.Comb {
			all = append(all, i)
		}
	}
	any := func(n int) []int {
		var list []int
		for range n {
			list = append(list, all[r.Intn(len(all))])
		}
		return list
	}
	for len(last) < len(all) {
		i := all[r.Intn(len(all))]
		ready := !slices.Contains(last, i)
		for _, k := range all {
			ready = ready && (!table[k][i] || slices.Contains(last, k))
		}
		if ready {
			last = append(last, i)
		}
	}
	return slices.Concat(any(r.Intn(8)), last, any(r.Intn(8)))
}

// settle runs processes.
func settle(t *testing.T, m eval.Machine, s eval.State, order []int) eval.State {
	t.Helper()
	for _, i := range order {
		var e api.Errno
		if s, _, e = m.Body(s, i); e != api.OK {
			t.Fatal(i, e)
		}
	}
	return s
}

// needed returns all bits that are read, but those of temporaries in their own process, and those of outputs.
func needed(d api.Design) []design.Piece {
	list, own := design.PropReads(d), newJudge(d)
	for i, p := range d.Procs {
		for _, x := range design.Reads(d, i) {
			if p.Kind != api.Seq || !own.has(i, x.Sig, api.Set) {
				list = append(list, x)
			}
		}
	}
	_, out := design.Ports(d)
	for _, i := range out {
		list = append(list, design.Piece{Sig: i, Bits: ^uint64(0) >> (64 - d.Signals[i].W)})
	}
	return list
}

// P13.13: after any order of runs, all bits that are needed are known, and the same.
func TestSettling(t *testing.T) {
	several := 0
	for seed := range int64(200) {
		d := grown(seed, 0)
		r := rand.New(rand.NewSource(seed))
		accepted, _ := lint.Accept(d)
		need := needed(d)
		m, e := eval.New(d)
		if e != api.OK {
			t.Fatal(e)
		}
		known := slices.Clone(lint.Registers(d))
		in, _ := design.Ports(d)
		known = append(known, in...)
		for range 2 {
			start := m.Start()
			for i, s := range d.Signals {
				for k := range s.Elems {
					start.Sigs[i][k] = vector(r, s.W, slices.Contains(known, i))
				}
			}
			want := settle(t, m, start, accepted.Order)
			for range 3 {
				for i, s := range d.Signals {
					for k := range s.Elems {
						if !slices.Contains(known, i) {
							start.Sigs[i][k] = vector(r, s.W, false)
						}
					}
				}
				order := settling(r, d)
				if !slices.Equal(order, accepted.Order) {
					several++
				}
				got := settle(t, m, start, order)
				for _, x := range need {
					a, b := want.Sigs[x.Sig][x.Elem], got.Sigs[x.Sig][x.Elem]
					if a.X&x.Bits != 0 || b.X&x.Bits != 0 || (a.V^b.V)&x.Bits != 0 {
						t.Fatalf("design %d, order %v: %v is %v, or %v", seed, order, x, bits.Text(a), bits.Text(b))
					}
				}
				for i, p := range d.Procs {
					if p.Kind != api.Seq {
						continue
					}
					_, puts, e := m.Body(got, i)
					if e != api.OK || slices.ContainsFunc(puts, func(p eval.Put) bool { return !bits.Known(p.B) }) {
						t.Fatalf("design %d, process %d: %v, error %d", seed, i, puts, e)
					}
				}
			}
		}
	}
	if several < 1000 {
		t.Error(several)
	}
}

// memory finds slices of a value that share memory, with their spare capacity.
type memory []struct{ from, to uintptr }

// add adds the memory of all slices of a value.
func (m *memory) add(v reflect.Value) {
	switch v.Kind() {
	case reflect.Slice:
		if size := v.Type().Elem().Size(); v.Cap() > 0 && size > 0 {
			*m = append(*m, struct{ from, to uintptr }{v.Pointer(), v.Pointer() + uintptr(v.Cap())*size})
		}
		for i := range v.Len() {
			m.add(v.Index(i))
		}
	case reflect.Struct:
		for i := range v.NumField() {
			m.add(v.Field(i))
		}
	}
}

// shares reports whether some of the memory belongs to two slices.
func (m memory) shares() bool {
	slices.SortFunc(m, func(a, b struct{ from, to uintptr }) int { return int(a.from) - int(b.from) })
	for i := range m {
		if i > 0 && m[i].from < m[i-1].to {
			return true
		}
	}
	return false
}

// Z2: designs are not changed, the same call has the same result, and no two slices of results and arguments share memory.
func TestMemory(t *testing.T) {
	for seed := range int64(200) {
		d := copyOf(grown(seed, int(seed)%3*20), 0)
		before := copyOf(d, 0)
		a, _ := lint.Accept(d)
		b, _ := lint.Accept(d)
		k, l := lint.Registers(d), lint.Registers(d)
		if !reflect.DeepEqual(copyOf(d, 0), before) || !reflect.DeepEqual(a, b) || !slices.Equal(k, l) {
			t.Fatal(seed, a, b, k, l)
		}
		var m memory
		for _, x := range []any{d, a, b, k, l} {
			m.add(reflect.ValueOf(x))
		}
		if m.shares() {
			t.Fatal(seed)
		}
		// What lies behind the lengths of slices does not matter, and stays as it is.
		spare := copyOf(d, 3)
		if c, _ := lint.Accept(spare); !reflect.DeepEqual(a, c) {
			t.Fatal(seed, a, c)
		}
	}
}

// Z1: trees of 1000 levels and of many nodes, and as many processes as there can be.
func TestLargeDesigns(t *testing.T) {
	deep, wide := num(1, 0), op(api.Cat, 64)
	body := api.Stmt{}
	for range 999 {
		deep = op(api.LNot, 1, deep)
		body = block(body)
	}
	wide.Kids = make([]api.Expr, 99_999)
	base := built(t, head+"wire w; assign w = x; comb ; property p (rise clk) 1 -> 1; }")
	for i, change := range []func(d *api.Design){
		func(d *api.Design) { d.Procs[1].Body.Args[0] = deep },
		func(d *api.Design) { d.Procs[1].Body.To = deep },
		func(d *api.Design) { d.Procs[2].Body = body },
		func(d *api.Design) { d.Procs[2].Body.Kids = make([]api.Stmt, 99_999) },
		func(d *api.Design) { d.Procs[1].Body.To = wide },
		func(d *api.Design) { d.Props[0].To.E = wide },
	} {
		d := copyOf(base, 0)
		change(&d)
		if _, e := lint.Accept(d); e != api.ErrLarge || len(lint.Registers(d)) > 0 {
			t.Error(i, e)
		}
	}
	// A chain of processes from the last one to the first one.
	d := api.Design{Name: "d", Signals: []api.Signal{{Name: "a", Port: api.In, W: 1, Elems: 1}}}
	for i := range api.MaxProcs {
		d.Signals = append(d.Signals, api.Signal{Name: fmt.Sprint("w", i), W: 64, Elems: 32})
		from := op(api.Resize, 64, ref(0, 1))
		if i < api.MaxProcs-1 {
			from = elem(2+i, 64, num(5, uint64(i%32)))
		}
		to := elem(1+i, 64, some(1))
		d.Procs = append(d.Procs, api.Proc{Name: "p", Body: set(to, from)})
	}
	r, _ := lint.Accept(d)
	if len(r.Reasons) != 2*api.MaxProcs {
		t.Error(len(r.Reasons))
	}
	for i := range d.Procs {
		d.Procs[i].Body.To.Kids[0] = num(5, uint64((i+31)%32))
	}
	r, _ = lint.Accept(d)
	if !r.OK || len(r.Order) != api.MaxProcs || r.Order[0] != api.MaxProcs-1 || !slices.IsSortedFunc(r.Order, func(a, b int) int { return b - a }) {
		t.Error(r)
	}
	// A body with many branches, each of which looks at many bits.
	big := api.Design{Name: "d"}
	var list []api.Stmt
	for i := range 150 {
		big.Signals = append(big.Signals, api.Signal{Name: fmt.Sprint("v", i), Kind: api.Var, W: 64, Elems: 32})
		list = append(list, set(elem(i, 64, some(1)), num(64, 0)))
	}
	for range 1100 {
		list = append(list, branch(num(1, 1), api.Stmt{}))
	}
	big.Procs = []api.Proc{{Name: "p", Kind: api.Comb, Body: block(list...)}}
	r, e := lint.Accept(big)
	if e != api.OK || len(r.Reasons) != 151 || r.Reasons[0].Rule != lint.Unknown {
		t.Error(len(r.Reasons), e)
	}
}
