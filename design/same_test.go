package design

import (
	"reflect"
	"slices"
	"strings"
	"testing"

	"maskwright/api"
)

// fill makes a value in which no field is zero and no list is empty, nested so deep.
func fill(v reflect.Value, depth int) {
	switch v.Kind() {
	case reflect.Struct:
		for i := range v.NumField() {
			fill(v.Field(i), depth)
		}
	case reflect.Slice:
		if depth == 0 {
			return
		}
		v.Set(reflect.MakeSlice(v.Type(), 2, 2))
		fill(v.Index(0), depth-1)
		fill(v.Index(1), depth-1)
	case reflect.Int:
		v.SetInt(3)
	case reflect.Uint64:
		v.SetUint(3)
	case reflect.Bool:
		v.SetBool(true)
	case reflect.String:
		v.SetString("s")
	}
}

// alter changes a leaf in all ways that make another value of it, calls f after each one, and restores it.
func alter(v reflect.Value, f func()) {
	old := reflect.New(v.Type()).Elem()
	old.Set(v)
	var others []any
	switch v.Kind() {
	case reflect.Int:
		others = []any{int(v.Int() + 1), int(-v.Int() - 1)}
	case reflect.Uint64:
		others = []any{v.Uint() ^ 1, v.Uint() ^ 1<<63}
	case reflect.Bool:
		others = []any{!v.Bool()}
	case reflect.String:
		others = []any{v.String() + "s", strings.ToUpper(v.String()) + "\x00"}
	case reflect.Slice:
		if v.Len() > 0 {
			others = append(others, v.Slice(0, v.Len()-1).Interface())
		}
		others = append(others, reflect.Append(v.Slice3(0, v.Len(), v.Len()), reflect.Zero(v.Type().Elem())).Interface())
	}
	for _, x := range others {
		v.Set(reflect.ValueOf(x))
		f()
	}
	v.Set(old)
}

// sameLeaves checks that same tells each change of x from x, but for lines.
func sameLeaves[T any](t *testing.T, x T, same func(a, b T) bool) {
	t.Helper()
	y := copyOf(x, 3)
	if !same(x, y) || !same(y, x) || !same(x, x) {
		t.Errorf("%T is not equal to a copy", x)
	}
	eachLeaf(reflect.ValueOf(&y).Elem(), "", func(v reflect.Value, field string) {
		alter(v, func() {
			if line := field == "Line"; same(x, y) != line || same(y, x) != line {
				t.Errorf("%T with another %s: %v", x, field, same(x, y))
			}
		})
	})
	if !same(x, y) {
		t.Fatal("not restored")
	}
}

// P8.13: every field matters but for lines.
func TestSame(t *testing.T) {
	var d api.Design
	fill(reflect.ValueOf(&d).Elem(), 3)
	sameLeaves(t, d, Same)
	sameLeaves(t, base(), Same)
	var e api.Expr
	fill(reflect.ValueOf(&e).Elem(), 3)
	sameLeaves(t, e, SameExpr)
	var s api.Stmt
	fill(reflect.ValueOf(&s).Elem(), 3)
	sameLeaves(t, s, SameStmt)
	for _, s := range stmtSamples() {
		sameLeaves(t, s, SameStmt)
	}
	for _, e := range samples() {
		sameLeaves(t, e, SameExpr)
	}
	sameLeaves(t, api.Design{}, Same)
}

// P8.13, Z4: empty lists are equal to lists that there are not.
func TestSameOfEmptyLists(t *testing.T) {
	if !Same(api.Design{}, api.Design{Signals: []api.Signal{}, Funcs: []api.Func{}, Procs: []api.Proc{}, Props: []api.Prop{}}) {
		t.Error("designs")
	}
	if !SameExpr(api.Expr{}, api.Expr{Kids: []api.Expr{}}) {
		t.Error("expressions")
	}
	if !SameStmt(api.Stmt{}, api.Stmt{Args: []api.Expr{}, Kids: []api.Stmt{}, Items: []api.Item{}, Edges: []api.Edge{}}) {
		t.Error("statements")
	}
}

// P8.13: the ports of any design.
func TestPorts(t *testing.T) {
	in, out := Ports(base())
	if !slices.Equal(in, []int{sigA, sigC}) || !slices.Equal(out, []int{sigQ, sigO}) {
		t.Error(in, out)
	}
	in, out = Ports(api.Design{})
	if len(in)+len(out) > 0 {
		t.Error(in, out)
	}
	bad := api.Design{Signals: []api.Signal{{Port: api.Out}, {Port: -1}, {Port: api.In, Kind: 7}, {Port: 3}, {}, {Port: api.Out, W: -1}}}
	in, out = Ports(bad)
	if !slices.Equal(in, []int{2}) || !slices.Equal(out, []int{0, 5}) {
		t.Error(in, out)
	}
}
