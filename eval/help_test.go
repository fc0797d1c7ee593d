package eval_test

import (
	"reflect"
	"testing"

	"maskwright/api"
	"maskwright/eval"
)

// Signals of the base design.
const (
	sigA = iota // In, 4 bits
	sigC        // In, 1 bit
	sigW        // wire, 4 bits
	sigV        // variable, 4 bits, begins with 9
	sigM        // variable, 3 elements of 4 bits
	sigQ        // Out, variable, 8 bits
	sigB        // wire, 2 elements of 4 bits
	sigN        // variable, 3 elements of 2 bits, begins with 1, x and z
	sigT        // variable, 64 bits
)

// Functions of the base design.
const (
	funcNot  = iota // 4 bits: not its argument
	funcBoth        // 8 bits: funcNot of its first argument, and the second one
	funcNone        // 4 bits: nothing is assigned
	funcSpin        // 1 bit: does as many turns as its argument of 16 bits says, and is 1
)

// vec returns the vector with these states, the highest bit first; it uses nothing of the program.
func vec(states string) api.Bits {
	b := api.Bits{W: len(states)}
	for _, c := range states {
		b.V <<= 1
		b.X <<= 1
		if c == '1' || c == 'x' {
			b.V |= 1
		}
		if c == 'z' || c == 'x' {
			b.X |= 1
		}
	}
	return b
}

// show returns the states of a vector, the highest bit first; it uses nothing of the program.
func show(b api.Bits) string {
	var s []byte
	for i := b.W - 1; i >= 0; i-- {
		s = append(s, "01zx"[2*(b.X>>i&1)+b.V>>i&1])
	}
	return string(s)
}

func ref(sig, w int) api.Expr { return api.Expr{Op: api.Ref, W: w, Sig: sig} }

func elem(sig, w int, k api.Expr) api.Expr {
	return api.Expr{Op: api.Elem, W: w, Sig: sig, Kids: []api.Expr{k}}
}

func local(e api.Expr) api.Expr {
	e.Local = true
	return e
}

func signed(e api.Expr) api.Expr {
	e.Signed = true
	return e
}

func num(w int, v uint64) api.Expr {
	return api.Expr{Op: api.Const, W: w, N: api.Bits{W: w, V: v}}
}

// lit returns the constant with these states.
func lit(states string) api.Expr {
	return api.Expr{Op: api.Const, W: len(states), N: vec(states)}
}

func op(op, w int, kids ...api.Expr) api.Expr { return api.Expr{Op: op, W: w, Kids: kids} }

func at(op, w, at int, kids ...api.Expr) api.Expr {
	return api.Expr{Op: op, W: w, At: at, Kids: kids}
}

func slice(w, from int, e api.Expr) api.Expr { return at(api.Slice, w, from, e) }

func part(w int, e, from api.Expr) api.Expr { return op(api.Part, w, e, from) }

// spin returns 1, after n turns.
func spin(n uint64) api.Expr { return at(api.Call, 1, funcSpin, num(16, n)) }

func set(to api.Expr, args ...api.Expr) api.Stmt { return api.Stmt{Op: api.Set, To: to, Args: args} }

func put(to api.Expr, args ...api.Expr) api.Stmt { return api.Stmt{Op: api.Put, To: to, Args: args} }

func block(kids ...api.Stmt) api.Stmt { return api.Stmt{Op: api.Block, Kids: kids} }

func with(op int, e api.Expr, kids ...api.Stmt) api.Stmt {
	return api.Stmt{Op: op, Args: []api.Expr{e}, Kids: kids}
}

func choice(kind int, e api.Expr, items ...api.Item) api.Stmt {
	return api.Stmt{Op: api.Case, Kind: kind, Args: []api.Expr{e}, Items: items}
}

func item(do api.Stmt, match ...api.Expr) api.Item { return api.Item{Match: match, Do: do} }

func variable(name string, w, elems int) api.Signal {
	return api.Signal{Name: name, Kind: api.Var, W: w, Elems: elems}
}

// base returns a valid design, in new memory.
func base() api.Design {
	x4, y4 := local(ref(0, 4)), local(ref(1, 4))
	return api.Design{
		Name: "top",
		Signals: []api.Signal{
			{Name: "a", Port: api.In, W: 4, Elems: 1},
			{Name: "c", Port: api.In, W: 1, Elems: 1},
			{Name: "w", W: 4, Elems: 1},
			{Name: "v", Kind: api.Var, W: 4, Elems: 1, Signed: true, Init: []api.Bits{vec("1001")}},
			{Name: "m", Kind: api.Var, W: 4, Elems: 3},
			{Name: "q", Port: api.Out, Kind: api.Var, W: 8, Elems: 1},
			{Name: "b", W: 4, Elems: 2},
			{Name: "n", Kind: api.Var, W: 2, Elems: 3, Init: []api.Bits{vec("01"), vec("xx"), vec("z0")}},
			{Name: "t", Kind: api.Var, W: 64, Elems: 1},
		},
		Funcs: []api.Func{
			{Name: "not", Args: 1, Vars: []api.Signal{variable("x", 4, 1), variable("y", 4, 1)}, Body: set(y4, op(api.Not, 4, x4))},
			{Name: "both", Args: 2, Vars: []api.Signal{variable("x", 4, 1), variable("y", 4, 1), variable("z", 8, 1)},
				Body: block(set(slice(4, 4, local(ref(2, 8))), at(api.Call, 4, funcNot, x4)), set(slice(4, 0, local(ref(2, 8))), y4))},
			{Name: "none", Vars: []api.Signal{variable("y", 4, 1)}},
			{Name: "spin", Args: 1, Vars: []api.Signal{variable("n", 16, 1), variable("y", 1, 1)},
				Body: block(with(api.Repeat, local(ref(0, 16)), api.Stmt{}), set(local(ref(1, 1)), num(1, 1)))},
		},
		Procs: []api.Proc{
			{Name: "p0", Kind: api.Cont, Body: set(ref(sigW, 4), ref(sigA, 4))},
			{Name: "p1", Kind: api.Comb, Body: set(ref(sigV, 4), ref(sigA, 4))},
			{Name: "p2", Kind: api.Seq, Edges: []api.Edge{{Kind: api.Rise, Sig: sigC}}, Body: put(ref(sigQ, 8), num(8, 7))},
			{Name: "p3", Kind: api.Always, Body: with(api.Delay, num(4, 3))},
			{Name: "p4", Kind: api.Initial, Body: block()},
		},
	}
}

// machine returns the machine of a design.
func machine(t *testing.T, d api.Design) eval.Machine {
	t.Helper()
	m, e := eval.New(d)
	if e != api.OK {
		t.Fatalf("New: error %d", e)
	}
	return m
}

// known returns a state of the base design in which everything is known: a is 3, c 1, w 5, v 9, m 1 2 3, q 200, b 6 7, n 1 2 3, t 77, and the time 1000.
func known() eval.State {
	one := func(w int, v uint64) []api.Bits { return []api.Bits{{W: w, V: v}} }
	return eval.State{Now: 1000, Sigs: [][]api.Bits{
		one(4, 3), one(1, 1), one(4, 5), one(4, 9), {{W: 4, V: 1}, {W: 4, V: 2}, {W: 4, V: 3}}, one(8, 200),
		{{W: 4, V: 6}, {W: 4, V: 7}}, {{W: 2, V: 1}, {W: 2, V: 2}, {W: 2, V: 3}}, one(64, 77),
	}}
}

// copyOf returns a copy of a state that shares no memory with it; it uses nothing of the package under test.
func copyOf(s eval.State) eval.State {
	c := eval.State{Now: s.Now}
	for _, list := range s.Sigs {
		c.Sigs = append(c.Sigs, append([]api.Bits{}, list...))
	}
	return c
}

// sameState reports whether two states are equal; nil lists are empty ones.
func sameState(a, b eval.State) bool { return reflect.DeepEqual(copyOf(a), copyOf(b)) }

// samePuts reports whether two lists of assignments are equal.
func samePuts(a, b []eval.Put) bool { return len(a) == 0 && len(b) == 0 || reflect.DeepEqual(a, b) }

// isNone reports whether there is neither a state nor an assignment.
func isNone(s eval.State, puts []eval.Put) bool {
	return len(s.Sigs) == 0 && s.Now == 0 && len(puts) == 0
}
