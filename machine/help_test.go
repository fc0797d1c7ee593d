package machine_test

import (
	"fmt"
	"reflect"
	"slices"
	"strings"
	"testing"

	"maskwright/api"
	"maskwright/design"
	"maskwright/elab"
	"maskwright/machine"
)

func ref(sig, w int) api.Expr { return api.Expr{Op: api.Ref, W: w, Sig: sig} }

func elem(sig, w int, k api.Expr) api.Expr {
	return api.Expr{Op: api.Elem, W: w, Sig: sig, Kids: []api.Expr{k}}
}

func op(op, w int, kids ...api.Expr) api.Expr { return api.Expr{Op: op, W: w, Kids: kids} }

func slice(w, at int, e api.Expr) api.Expr {
	return api.Expr{Op: api.Slice, W: w, At: at, Kids: []api.Expr{e}}
}

func num(w int, v uint64) api.Expr {
	return api.Expr{Op: api.Const, W: w, N: api.Bits{W: w, V: v}}
}

// built returns the design of the module top of a text.
func built(t *testing.T, s string) api.Design {
	t.Helper()
	d, l, e := elab.Text(map[string]string{"a.mw": s}, "a.mw", "top", nil)
	if e != api.OK || len(l) > 0 {
		t.Fatalf("%s\n%v, error %d", s, l, e)
	}
	return d
}

// head is the beginning of a module; its only process is p0.
const head = "module top (in clk, in rst, in a, in b, in [7:0] x, in [3:0] y, out [3:0] q) { assign q = x;\n"

// index returns the number of a signal.
func index(d api.Design, name string) int {
	return slices.IndexFunc(d.Signals, func(s api.Signal) bool { return s.Name == name })
}

// machineText writes a machine: the name of the register, the number of the process, the names of the free bits, the states and the edges.
func machineText(d api.Design, m machine.Machine) string {
	var free, edges []string
	for _, b := range m.Free {
		s := d.Signals[b.Sig]
		free = append(free, design.Bits(s)[b.Elem*s.W+b.At])
	}
	for _, x := range m.Edges {
		edges = append(edges, fmt.Sprint(x.From, ">", x.To, ":", x.Free))
	}
	return fmt.Sprint(d.Signals[m.Sig].Name, " p", m.Proc, " ", free, " ", m.States, " ", edges)
}

// found returns the machines of a design as texts.
func found(t *testing.T, d api.Design) string {
	t.Helper()
	l, e := machine.Find(d)
	if e != api.OK {
		t.Fatalf("error %d: %v", e, d)
	}
	var all []string
	for _, m := range l {
		all = append(all, machineText(d, m))
	}
	return strings.Join(all, "; ")
}

// row has members of a module that begins with the head, a change of the design if it has one, and the machines that are found.
type row struct {
	members string
	want    string
	change  func(d *api.Design)
}

// check checks rows.
func check(t *testing.T, rows []row) {
	t.Helper()
	for _, r := range rows {
		d := built(t, head+r.members+" }")
		if r.change != nil {
			r.change(&d)
		}
		if got := found(t, d); got != r.want {
			t.Errorf("%s\n%s\nnot\n%s", r.members, got, r.want)
		}
	}
}

// checkNames checks which registers of rows are machines; want has their names.
func checkNames(t *testing.T, rows []row) {
	t.Helper()
	for _, r := range rows {
		d := built(t, head+r.members+" }")
		if r.change != nil {
			r.change(&d)
		}
		l, e := machine.Find(d)
		var names []string
		for _, m := range l {
			names = append(names, d.Signals[m.Sig].Name)
		}
		if got := strings.Join(names, " "); e != api.OK || got != r.want {
			t.Errorf("%s\n%s, error %d, not\n%s", r.members, got, e, r.want)
		}
	}
}

// copyOf returns a deep copy; all slices in it have the same spare capacity, and empty ones are nil.
func copyOf[T any](x T, spare int) T {
	from, to := reflect.ValueOf(&x).Elem(), reflect.New(reflect.TypeOf(x)).Elem()
	copyInto(to, from, spare)
	return to.Interface().(T)
}

// copyInto copies a value and everything in it.
func copyInto(to, from reflect.Value, spare int) {
	switch from.Kind() {
	case reflect.Struct:
		for i := range from.NumField() {
			copyInto(to.Field(i), from.Field(i), spare)
		}
	case reflect.Slice:
		if from.Len() == 0 && spare == 0 {
			return
		}
		to.Set(reflect.MakeSlice(from.Type(), from.Len(), from.Len()+spare))
		for i := range from.Len() {
			copyInto(to.Index(i), from.Index(i), spare)
		}
	default:
		to.Set(from)
	}
}

// equal reports whether two values are the same; an empty slice is the same as nil.
func equal[T any](a, b T) bool {
	return reflect.DeepEqual(copyOf(a, 0), copyOf(b, 0))
}

// eachNode visits the parts of a value by pointers; it does not look into those for which visit returns false.
func eachNode(x any, visit func(x any) bool) {
	var look func(v reflect.Value)
	look = func(v reflect.Value) {
		switch v.Kind() {
		case reflect.Struct:
			if !visit(v.Addr().Interface()) {
				return
			}
			for i := range v.NumField() {
				look(v.Field(i))
			}
		case reflect.Slice:
			for i := range v.Len() {
				look(v.Index(i))
			}
		}
	}
	look(reflect.ValueOf(x).Elem())
}

// memory has the slices of values, with their spare capacity.
type memory []struct{ from, to uintptr }

// add adds the memory of all slices of a value.
func (m *memory) add(v reflect.Value) {
	switch v.Kind() {
	case reflect.Slice:
		if size := v.Type().Elem().Size(); v.Cap() > 0 && size > 0 {
			*m = append(*m, struct{ from, to uintptr }{v.Pointer(), v.Pointer() + uintptr(v.Cap())*size})
		}
		for i := range v.Len() {
			m.add(v.Index(i))
		}
	case reflect.Struct:
		for i := range v.NumField() {
			m.add(v.Field(i))
		}
	}
}

// share reports whether some memory belongs to two slices of values.
func share(values ...any) bool {
	var m memory
	for _, x := range values {
		m.add(reflect.ValueOf(x))
	}
	slices.SortFunc(m, func(a, b struct{ from, to uintptr }) int { return int(a.from) - int(b.from) })
	for i := range m {
		if i > 0 && m[i].from < m[i-1].to {
			return true
		}
	}
	return false
}
