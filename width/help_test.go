package width_test

import (
	"fmt"
	"strings"
	"testing"

	"maskwright/api"
	"maskwright/bits"
	"maskwright/design"
	"maskwright/parse"
	S "maskwright/syntax"
	"maskwright/width"
)

// signals has the names of the signals of the environment, by their numbers.
var signals = []string{"a", "b", "m", "s", "g.x", "n", "l", "t", "c", "g.m", "y", "e"}

// opNames has the names of the operations of expressions, in order.
var opNames = strings.Fields("const ref elem slice part not neg redand redor redxor lnot land lor and or xor add sub mul div mod shl shr sar eq ne caseeq casene lt le cond cat rep resize call now")

// vec returns the vector with these states, the highest bit first; it uses nothing of the program.
func vec(states string) api.Bits {
	b := api.Bits{W: len(states)}
	for _, c := range states {
		b.V <<= 1
		b.X <<= 1
		if c == '1' || c == 'x' {
			b.V |= 1
		}
		if c == 'z' || c == 'x' {
			b.X |= 1
		}
	}
	return b
}

// states returns the states of a vector, the highest bit first; it uses nothing of the program.
func states(b api.Bits) string {
	var s []byte
	for i := b.W - 1; i >= 0; i-- {
		s = append(s, "01zx"[2*(b.X>>i&1)+b.V>>i&1])
	}
	return string(s)
}

// pair is a structure of 5 bits, nest one of 8 bits that has one in it.
func pair() width.Type {
	return width.Type{W: 5, Fields: []width.Field{{Name: "hi", At: 2, Type: width.Type{W: 3, Lsb: 1}}, {Name: "lo", Type: width.Type{W: 2, Signed: true}}}}
}

func nest() width.Type {
	return width.Type{W: 8, Fields: []width.Field{{Name: "p", At: 3, Type: pair()}, {Name: "z", Type: width.Type{W: 3, Lsb: 5, Signed: true}}}}
}

// env returns the environment of the tests, in new memory.
func env() width.Env {
	e := width.Env{Names: map[string]width.Thing{
		"k":   {Kind: width.Const, Value: api.Bits{W: 32, V: 3}, Type: width.Type{W: 32, Signed: true}},
		"u":   {Kind: width.Const, Value: vec("1x0z"), Type: width.Type{W: 4}},
		"v":   {Kind: width.Const, Value: vec("1110"), Type: width.Type{W: 4, Signed: true}},
		"w":   {Kind: width.Const, Value: vec("100101"), Type: width.Type{W: 6, Lsb: 3}},
		"q":   {Kind: width.Const, Value: vec("10110"), Type: pair()},
		"g":   {Kind: width.Group},
		"g.k": {Kind: width.Const, Value: vec("10"), Type: width.Type{W: 2}},
		"g.h": {Kind: width.Group}, "g.h.x": {Kind: width.Signal, Type: width.Type{W: 4}, Elems: 1},
		"f":    {Kind: width.Func, Sig: 0, Args: []width.Type{{W: 4}}, Type: width.Type{W: 8, Signed: true}},
		"g.f":  {Kind: width.Func, Sig: 0, Args: []width.Type{{W: 4}}, Type: width.Type{W: 8, Signed: true}},
		"h":    {Kind: width.Func, Sig: 1, Type: width.Type{W: 3}},
		"two":  {Kind: width.Func, Sig: 2, Args: []width.Type{{W: 2, Signed: true}, {W: 9}}, Type: width.Type{W: 5, Signed: true}},
		"spin": {Kind: width.Func, Sig: 3, Args: []width.Type{{W: 16}}, Type: width.Type{W: 1}},
	}, Funcs: functions()}
	types := []width.Type{{W: 4}, {W: 8, Signed: true}, {W: 4}, pair(), {W: 1}, nest(), {W: 6, Lsb: 4, Signed: true}, {W: 64}, {W: 1, Signed: true}, {W: 2, Signed: true}, nest(), {W: 3}}
	for i, name := range signals {
		e.Names[name] = width.Thing{Kind: width.Signal, Sig: i, Type: types[i], Elems: 1}
	}
	array := func(name string, first, elems int) {
		x := e.Names[name]
		x.Array, x.First, x.Elems = true, first, elems
		e.Names[name] = x
	}
	array("m", 2, 3)
	array("n", 0, 2)
	array("g.m", 7, 1)
	array("e", 0, 1)
	return e
}

// locals returns an environment whose signals are variables of a function.
func locals() width.Env {
	e := env()
	for _, name := range signals {
		x := e.Names[name]
		x.Local = true
		e.Names[name] = x
	}
	return e
}

// functions returns the functions of the environment: f(x) is ~x and x, h() is 5, two(x, y) is the sum of both, spin(n) does n turns and is 1.
func functions() []api.Func {
	ref := func(sig, w int) api.Expr { return api.Expr{Op: api.Ref, W: w, Sig: sig, Local: true} }
	set := func(to, e api.Expr) api.Stmt { return api.Stmt{Op: api.Set, To: to, Args: []api.Expr{e}} }
	vars := func(w ...int) []api.Signal {
		var l []api.Signal
		for i, x := range w {
			l = append(l, api.Signal{Name: fmt.Sprint("v", i), Kind: api.Var, W: x, Elems: 1})
		}
		return l
	}
	not := op(api.Not, 4, ref(0, 4))
	low := op(api.Resize, 5, ref(0, 2))
	low.Signed = true
	return []api.Func{
		{Name: "f0", Args: 1, Vars: vars(4, 8), Body: set(ref(1, 8), op(api.Cat, 8, not, ref(0, 4)))},
		{Name: "f1", Vars: vars(3), Body: set(ref(0, 3), num(3, 5))},
		{Name: "f2", Args: 2, Vars: vars(2, 9, 5), Body: set(ref(2, 5), op(api.Add, 5, low, op(api.Resize, 5, ref(1, 9))))},
		{Name: "f3", Args: 1, Vars: vars(16, 1), Body: api.Stmt{Op: api.Block, Kids: []api.Stmt{
			{Op: api.Repeat, Args: []api.Expr{ref(0, 16)}, Kids: []api.Stmt{{}}}, set(ref(1, 1), num(1, 1))}}},
	}
}

// designOf returns a design with the signals of an environment as variables.
func designOf(e width.Env) api.Design {
	d := api.Design{Name: "top", Funcs: e.Funcs}
	for _, name := range signals {
		x := e.Names[name]
		d.Signals = append(d.Signals, api.Signal{Name: name, Kind: api.Var, W: x.Type.W, Signed: x.Type.Signed, Elems: x.Elems})
	}
	return d
}

// P9 and P8: the environment of the tests fits together.
func TestEnvironment(t *testing.T) {
	if e := design.Check(designOf(env())); e != api.OK {
		t.Error(e)
	}
}

func num(w int, v uint64) api.Expr {
	return api.Expr{Op: api.Const, W: w, N: api.Bits{W: w, V: v}}
}

func op(op, w int, kids ...api.Expr) api.Expr { return api.Expr{Op: op, W: w, Kids: kids} }

func ref(sig, w int) api.Expr { return api.Expr{Op: api.Ref, W: w, Sig: sig} }

func signed(e api.Expr) api.Expr {
	e.Signed = true
	return e
}

// node reads an expression.
func node(t *testing.T, s string) S.Node {
	t.Helper()
	n, e := parse.Expr(s)
	if e != api.OK {
		t.Fatalf("%s: error %d", s, e)
	}
	return n
}

// show returns a text that says everything of an expression: its operation and its width, s if it is Signed, its numbers, and its kids.
func show(e api.Expr) string {
	var kids []string
	for _, kid := range e.Kids {
		kids = append(kids, show(kid))
	}
	s := opNames[e.Op]
	if e.Op == api.Ref || e.Op == api.Elem {
		s = signals[e.Sig]
		if e.Local {
			s = "%" + s
		}
	}
	s += fmt.Sprint(e.W)
	if e.Op == api.Const {
		s = bits.Text(e.N)
		if v, ok := bits.Uint(e.N); ok {
			s = fmt.Sprintf("%d'%d", e.W, v)
		}
	}
	if e.Signed {
		s += "s"
	}
	switch {
	case e.Op == api.Slice, e.Op == api.Rep, e.Op == api.Call:
		s += fmt.Sprint("@", e.At)
	case e.Op == api.Elem:
		return s + "[" + strings.Join(kids, ", ") + "]"
	}
	if len(kids) > 0 {
		s += "(" + strings.Join(kids, ", ") + ")"
	}
	return s
}

// none reports whether an expression is the zero value.
func none(e api.Expr) bool {
	return len(e.Kids) == 0 && e.Op == 0 && e.W == 0 && !e.Signed && e.N == api.Bits{} && e.Sig == 0 && !e.Local && e.At == 0
}
