package fold_test

import (
	"testing"

	"maskwright/api"
	"maskwright/fold"
	"maskwright/parse"
	S "maskwright/syntax"
	"maskwright/width"
)

// vec returns the vector with these states, the highest bit first; it uses nothing of the program.
func vec(states string) api.Bits {
	b := api.Bits{W: len(states)}
	for _, c := range states {
		b.V <<= 1
		b.X <<= 1
		if c == '1' || c == 'x' {
			b.V |= 1
		}
		if c == 'z' || c == 'x' {
			b.X |= 1
		}
	}
	return b
}

// states returns the states of a vector, the highest bit first; it uses nothing of the program.
func states(b api.Bits) string {
	var s []byte
	for i := b.W - 1; i >= 0; i-- {
		s = append(s, "01zx"[2*(b.X>>i&1)+b.V>>i&1])
	}
	return string(s)
}

// constant returns a constant with a name.
func constant(states string, x width.Type) width.Thing {
	x.W = len(states)
	return width.Thing{Kind: width.Const, Value: vec(states), Type: x}
}

// env returns the environment of the tests, in new memory: constants, a and m, which are none, and the functions f(x), which is cat(~x, x), and spin(n), which does n turns and is 1.
func env() width.Env {
	fields := []width.Field{{Name: "hi", At: 2, Type: width.Type{W: 3, Lsb: 1}}, {Name: "lo", Type: width.Type{W: 2, Signed: true}}}
	return width.Env{Names: map[string]width.Thing{
		"K":    constant("11001000", width.Type{}),
		"T":    constant("111011", width.Type{Lsb: 2, Signed: true}),
		"P":    constant("10110", width.Type{Fields: fields}),
		"U":    constant("1x0z", width.Type{}),
		"g":    {Kind: width.Group},
		"g.k":  constant("101", width.Type{}),
		"a":    {Kind: width.Signal, Type: width.Type{W: 4}, Elems: 1},
		"m":    {Kind: width.Signal, Sig: 1, Type: width.Type{W: 4}, Array: true, First: 2, Elems: 3},
		"f":    {Kind: width.Func, Args: []width.Type{{W: 4}}, Type: width.Type{W: 8, Signed: true}},
		"spin": {Kind: width.Func, Sig: 1, Args: []width.Type{{W: 16}}, Type: width.Type{W: 1}},
	}, Funcs: functions()}
}

// functions returns the functions of the environment.
func functions() []api.Func {
	ref := func(sig, w int) api.Expr { return api.Expr{Op: api.Ref, W: w, Sig: sig, Local: true} }
	set := func(to, e api.Expr) api.Stmt { return api.Stmt{Op: api.Set, To: to, Args: []api.Expr{e}} }
	variable := func(name string, w int) api.Signal { return api.Signal{Name: name, Kind: api.Var, W: w, Elems: 1} }
	not := api.Expr{Op: api.Not, W: 4, Kids: []api.Expr{ref(0, 4)}}
	both := api.Expr{Op: api.Cat, W: 8, Kids: []api.Expr{not, ref(0, 4)}}
	turns := api.Stmt{Op: api.Repeat, Args: []api.Expr{ref(0, 16)}, Kids: []api.Stmt{{}}}
	one := set(ref(1, 1), api.Expr{Op: api.Const, W: 1, N: vec("1")})
	return []api.Func{
		{Name: "f", Args: 1, Vars: []api.Signal{variable("x", 4), variable("f", 8)}, Body: set(ref(1, 8), both)},
		{Name: "spin", Args: 1, Vars: []api.Signal{variable("n", 16), variable("spin", 1)}, Body: api.Stmt{Op: api.Block, Kids: []api.Stmt{turns, one}}},
	}
}

// node reads an expression.
func node(t *testing.T, s string) S.Node {
	t.Helper()
	n, e := parse.Expr(s)
	if e != api.OK {
		t.Fatalf("%s: error %d", s, e)
	}
	return n
}

// num returns a number as a node.
func num(b api.Bits, signed bool) S.Node {
	return S.Node{Kind: S.Num, Num: b, Signed: signed}
}

// refused checks that a tree has an error, and no value.
func refused(t *testing.T, what string, n S.Node, want api.Errno) {
	t.Helper()
	if b, signed, e := fold.Value(n, env()); e != want || b != (api.Bits{}) || signed {
		t.Errorf("%s: %v, %v, error %d, not %d", what, b, signed, e, want)
	}
}
