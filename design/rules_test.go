package design

import (
	"math/rand"
	"reflect"
	"strings"
	"testing"

	"maskwright/api"
)

// use calls all functions with a design.
func use(d api.Design, e api.Expr, s api.Stmt) {
	Check(d)
	Funcs(d)
	PropReads(d)
	Ports(d)
	Same(d, d)
	CheckExpr(d, e)
	SameExpr(e, e)
	for _, waits := range []bool{false, true} {
		CheckStmt(d, s, waits)
	}
	SameStmt(s, s)
	for i := -1; i <= len(d.Procs); i++ {
		Weight(d, i)
		Reads(d, i)
		Drives(d, i)
	}
	for _, x := range d.Signals {
		Bits(x)
		Name(x.Name)
		Part(x.Name)
	}
}

// Z1: no design, expression or statement leads to a panic.
func TestNoPanic(t *testing.T) {
	most, least := int(^uint(0)>>1), -1<<63
	for seed := range int64(150) {
		r := rand.New(rand.NewSource(seed))
		d := grown(seed)
		for range 10 {
			x := copyOf(d, 0)
			for range 1 + r.Intn(20) {
				spoil(r, &x)
			}
			other := grown(seed + 1)
			use(x, anyExpr(r, other), anyStmt(r, other))
			use(other, anyExpr(r, x), anyStmt(r, x))
		}
	}
	for _, n := range []int{-1, 0, 1, 64, most, least} {
		e := api.Expr{Op: n, W: n, Sig: n, At: n, N: api.Bits{W: n, V: 1}}
		for op := -1; op <= api.Now+1; op++ {
			e.Op = op
			for kids := range 4 {
				e.Kids = repeat(kids, num(1, 1))
				s := api.Stmt{Op: n, To: e, Args: repeat(2, e), Kind: n, Line: n, Edges: []api.Edge{{Kind: n, Sig: n}}, Kids: make([]api.Stmt, kids)}
				use(base(), e, s)
				use(api.Design{Signals: []api.Signal{{W: n, Elems: n}}, Funcs: []api.Func{{Args: n, Body: s}}, Procs: []api.Proc{{Kind: n, Body: s}}, Props: []api.Prop{{Clock: n, From: holds(e)}}}, e, s)
			}
		}
	}
}

// anyExpr returns an expression of a design.
func anyExpr(r *rand.Rand, d api.Design) api.Expr {
	if s := anyStmt(r, d); len(s.Args) > 0 {
		return s.Args[0]
	}
	return api.Expr{Op: r.Intn(40), W: r.Intn(70)}
}

// anyStmt returns a statement of a design.
func anyStmt(r *rand.Rand, d api.Design) api.Stmt {
	if len(d.Procs) == 0 {
		return api.Stmt{}
	}
	s := d.Procs[r.Intn(len(d.Procs))].Body
	for len(s.Kids) > 0 && r.Intn(3) > 0 {
		s = s.Kids[r.Intn(len(s.Kids))]
	}
	return s
}

// Z1: values that are as deep and as large as they may be.
func TestLargestValues(t *testing.T) {
	e, s, q := chain(999), nested(998), holds(num(1, 1))
	for range 990 {
		q = api.Temporal{Op: api.Times, Kids: []api.Temporal{q}}
	}
	s = block(s, with(api.Until, wide(90_000)))
	d := base()
	d.Funcs[0].Body, d.Procs[3].Body, d.Props[0].From, d.Name = s, s, q, strings.Repeat("n", 100_000)
	use(d, e, s)
	d.Name = "d"
	use(d, wide(99_000), s)
	if Check(d) != api.ErrLarge {
		t.Error("not too large")
	}
}

// Z2: no argument is changed, nor the memory behind its lists.
func TestArgumentsStay(t *testing.T) {
	for seed := range int64(40) {
		d := copyOf(grown(seed), 2)
		r := rand.New(rand.NewSource(seed))
		e, s := copyOf(anyExpr(r, d), 2), copyOf(anyStmt(r, d), 2)
		before, beforeExpr, beforeStmt := copyOf(d, 0), copyOf(e, 0), copyOf(s, 0)
		use(d, e, s)
		if !reflect.DeepEqual(copyOf(d, 0), before) || !reflect.DeepEqual(copyOf(e, 0), beforeExpr) || !reflect.DeepEqual(copyOf(s, 0), beforeStmt) {
			t.Fatalf("design %d was changed", seed)
		}
		if spare(reflect.ValueOf(d)) || spare(reflect.ValueOf(e)) || spare(reflect.ValueOf(s)) {
			t.Fatalf("the memory behind a list of design %d was changed", seed)
		}
	}
}

// spare reports whether there is something in the spare capacity of a list.
func spare(v reflect.Value) bool {
	switch v.Kind() {
	case reflect.Struct:
		for i := range v.NumField() {
			if spare(v.Field(i)) {
				return true
			}
		}
	case reflect.Slice:
		for i := range v.Len() {
			if spare(v.Index(i)) {
				return true
			}
		}
		for i := v.Len(); i < v.Cap(); i++ {
			if !v.Slice(0, v.Cap()).Index(i).IsZero() {
				return true
			}
		}
	}
	return false
}

// Z2: results are new memory, with their spare capacity.
func TestResultsAreNew(t *testing.T) {
	d := base()
	for what, call := range map[string]func() any{
		"Bits":      func() any { return Bits(d.Signals[sigM]) },
		"Funcs":     func() any { return Funcs(d) },
		"Reads":     func() any { return Reads(d, 2) },
		"Drives":    func() any { return Drives(d, 2) },
		"PropReads": func() any { return PropReads(d) },
		"In":        func() any { in, _ := Ports(d); return in },
		"Out":       func() any { _, out := Ports(d); return out },
	} {
		first, second := reflect.ValueOf(call()), reflect.ValueOf(call())
		if first.Len() == 0 {
			t.Fatalf("%s: nothing", what)
		}
		wanted := reflect.MakeSlice(second.Type(), second.Len(), second.Len())
		reflect.Copy(wanted, second)
		first = first.Slice(0, first.Cap())
		for i := range first.Len() {
			first.Index(i).SetZero()
		}
		if !reflect.DeepEqual(second.Interface(), wanted.Interface()) || !reflect.DeepEqual(call(), wanted.Interface()) {
			t.Errorf("%s: results share memory", what)
		}
	}
	in, out := Ports(d)
	in = append(in, 77)
	if out = append(out, 88); in[len(in)-1] != 77 {
		t.Error("the results of Ports share memory")
	}
}

// Z4: empty lists are like lists that there are not.
func TestEmptyLists(t *testing.T) {
	for seed := range int64(30) {
		d := grown(seed)
		x := copyOf(d, 0)
		eachLeaf(reflect.ValueOf(&x).Elem(), "", func(v reflect.Value, _ string) {
			if v.Kind() == reflect.Slice && v.Len() == 0 {
				v.Set(reflect.MakeSlice(v.Type(), 0, 0))
			}
		})
		if Check(x) != api.OK || !Same(x, d) {
			t.Errorf("design %d", seed)
		}
	}
}
