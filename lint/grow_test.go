package lint_test

import (
	"math/rand"
	"slices"
	"strconv"

	"maskwright/api"
)

// grower makes random designs that are accepted, or, if it is wild, ones that break a few rules.
type grower struct {
	*rand.Rand
	d       api.Design
	wild    int          // one of so many choices is free; 0: none
	signals []api.Signal // those of the design, or of the function
	local   bool
	known   []int // the signals that can be read
	callees int
}

// The first signals of a grown design.
const (
	clk = iota
	rst
	firstIn
)

// free reports whether a choice need not keep the rules.
func (g *grower) free() bool { return g.wild > 0 && g.Intn(g.wild) == 0 }

func (g *grower) yes() bool { return g.Intn(2) == 0 }

// grown returns a random valid design; with wild 0 it is accepted.
func grown(seed int64, wild int) api.Design {
	g := &grower{Rand: rand.New(rand.NewSource(seed)), wild: wild}
	g.d.Name = "d" + strconv.FormatInt(seed, 10)
	g.signal(api.Signal{Port: api.In, W: 1})
	g.signal(api.Signal{Port: api.In, W: 1})
	for range 2 + g.Intn(2) {
		g.know(g.signal(api.Signal{Port: api.In, W: g.width(), Signed: g.yes()}))
	}
	for i := range g.Intn(3) {
		g.function(i)
	}
	g.signals, g.local, g.callees = g.d.Signals, false, len(g.d.Funcs)
	registers := g.registers()
	for range 2 + g.Intn(3) {
		if g.yes() {
			g.wires()
		} else {
			g.comb()
		}
	}
	g.output()
	g.sequential(registers)
	if g.yes() || g.free() {
		g.property(g.clock())
	}
	g.Shuffle(len(g.d.Procs), func(i, k int) { g.d.Procs[i], g.d.Procs[k] = g.d.Procs[k], g.d.Procs[i] })
	return g.d
}

// clock returns the clock; rarely another signal.
func (g *grower) clock() int {
	if g.free() {
		return g.single()
	}
	return clk
}

// single returns a signal of one element.
func (g *grower) single() int {
	for {
		if i := g.Intn(len(g.d.Signals)); g.d.Signals[i].Elems == 1 {
			return i
		}
	}
}

// signal adds a signal to the design and returns its number.
func (g *grower) signal(s api.Signal) int {
	i := len(g.d.Signals)
	s.Name = "s" + strconv.Itoa(i)
	s.Elems = max(s.Elems, 1)
	g.d.Signals = append(g.d.Signals, s)
	g.signals = g.d.Signals
	return i
}

// know lets expressions read a signal.
func (g *grower) know(i int) { g.known = append(g.known, i) }

func (g *grower) width() int { return []int{1, 1, 2, 3, 4, 4, 5, 8}[g.Intn(8)] }

// process adds a process.
func (g *grower) process(kind int, body api.Stmt, edges ...api.Edge) {
	if g.free() && kind == api.Comb {
		kind = []int{api.Always, api.Initial, api.Seq}[g.Intn(3)]
		if kind == api.Seq {
			edges = []api.Edge{{Kind: g.Intn(3), Sig: g.clock()}}
		}
	}
	for again := true; again; again = g.free() {
		g.d.Procs = append(g.d.Procs, api.Proc{Name: "p", Kind: kind, Body: body, Edges: edges, Line: g.Intn(9)})
	}
}

// whole returns the Ref of a signal, or an Elem of it.
func (g *grower) whole(i int, element api.Expr) api.Expr {
	s := g.signals[i]
	e := api.Expr{Op: api.Ref, W: s.W, Sig: i, Local: g.local, Signed: g.yes()}
	if s.Elems > 1 {
		e.Op, e.Kids = api.Elem, []api.Expr{element}
	}
	return e
}

// elements returns the targets that are all elements of a signal, whole or in pieces.
func (g *grower) elements(i int) []api.Expr {
	var list []api.Expr
	for k := range g.signals[i].Elems {
		e := g.whole(i, num(5, uint64(k)))
		if e.W == 1 || g.yes() {
			list = append(list, e)
			continue
		}
		at := 1 + g.Intn(e.W-1)
		low, high := slice(at, 0, e), slice(e.W-at, at, e)
		if g.yes() {
			low = op(api.Part, at, e, num(1, 0))
		}
		if g.yes() {
			high = op(api.Part, e.W-at, e, num(7, uint64(at)))
		}
		list = append(list, high, low)
	}
	if g.free() {
		list = list[:len(list)-1]
	}
	g.Shuffle(len(list), func(a, b int) { list[a], list[b] = list[b], list[a] })
	return list
}

// wires adds a wire, with its drivers.
func (g *grower) wires() {
	s := api.Signal{W: g.width()}
	if g.Intn(3) == 0 {
		s.Elems = 1 + g.Intn(4)
	}
	i := g.signal(s)
	targets := g.elements(i)
	if g.free() {
		g.know(i)
	}
	for k := 0; k < len(targets); k++ {
		to := targets[k]
		if k+1 < len(targets) && to.W+targets[k+1].W <= 64 && g.Intn(4) == 0 {
			to = op(api.Cat, to.W+targets[k+1].W, to, targets[k+1])
			k++
		}
		g.process(api.Cont, set(to, g.expr(to.W, 3)))
	}
	if !slices.Contains(g.known, i) {
		g.know(i)
	}
}

// comb adds one or two variables that a process sets.
func (g *grower) comb() {
	var vars []int
	for range 1 + g.Intn(2) {
		s := api.Signal{Kind: api.Var, W: g.width()}
		if g.Intn(3) == 0 {
			s.Elems = 1 + g.Intn(4)
		}
		vars = append(vars, g.signal(s))
	}
	g.process(api.Comb, g.sets(vars))
	for _, i := range vars {
		if !slices.Contains(g.known, i) {
			g.know(i)
		}
	}
}

// output adds an output for some bits.
func (g *grower) output() {
	i := g.signal(api.Signal{Port: api.Out, W: 8})
	g.process(api.Cont, set(ref(i, 8), g.expr(8, 3)))
}

// registers adds registers and returns their numbers.
func (g *grower) registers() []int {
	var list []int
	for range 1 + g.Intn(3) {
		s := api.Signal{Kind: api.Var, W: g.width(), Elems: 1}
		if g.Intn(3) == 0 {
			s.Elems = 1 + g.Intn(4)
		} else if g.Intn(3) == 0 {
			s.Port = api.Out
		}
		if s.Elems > 1 && g.free() {
			s.W, s.Elems = 64, 5
		}
		for range s.Elems {
			s.Init = append(s.Init, api.Bits{W: s.W, V: g.Uint64() >> (64 - s.W)})
		}
		if g.free() {
			s.Init = nil
		}
		i := g.signal(s)
		g.know(i)
		list = append(list, i)
	}
	return list
}

// sequential adds processes for registers.
func (g *grower) sequential(registers []int) {
	kind := api.Rise + g.Intn(2)
	for _, i := range registers {
		edges := []api.Edge{{Kind: api.Rise, Sig: g.clock()}}
		body, constants := g.puts(i)
		if g.yes() && len(constants) > 0 {
			edges = append(edges, api.Edge{Kind: kind, Sig: rst})
			active := ref(rst, 1)
			if kind == api.Fall {
				active = op(api.LNot, 1, active)
			}
			body = branch(active, block(constants...), body)
		}
		if g.free() {
			edges = append(edges, api.Edge{Kind: g.Intn(3), Sig: g.single()})
		}
		g.process(api.Seq, body, edges...)
	}
}

// puts returns the body of a register, and the statements that give it constants, if they can be written.
func (g *grower) puts(i int) (body api.Stmt, constants []api.Stmt) {
	temporary := g.signal(api.Signal{Kind: api.Var, W: g.width()})
	body = g.sets([]int{temporary})
	g.know(temporary)
	for range 1 + g.Intn(2) {
		s := put(g.target(i), api.Expr{})
		s.Args[0] = g.expr(s.To.W, 3)
		if g.yes() {
			s = branch(g.expr(1, 2), s)
		}
		body = block(body, s)
	}
	if !g.free() {
		g.known = slices.DeleteFunc(g.known, func(k int) bool { return k == temporary })
	}
	if s := g.signals[i]; s.Elems == 1 {
		constants = append(constants, put(g.whole(i, api.Expr{}), num(s.W, 0)))
	}
	return body, constants
}

// target returns a target in a signal.
func (g *grower) target(i int) api.Expr {
	s := g.signals[i]
	e := g.whole(i, g.index(s.Elems-1))
	switch g.Intn(3) {
	case 0:
		w := 1 + g.Intn(e.W)
		return slice(w, g.Intn(e.W-w+1), e)
	case 1:
		w := 1 + g.Intn(e.W)
		return op(api.Part, w, e, g.index(e.W-w))
	}
	return e
}

// sets returns a statement that surely sets variables; afterwards it may read them.
func (g *grower) sets(vars []int) api.Stmt {
	list := []api.Stmt{g.surely(vars, 2)}
	known := slices.Clone(g.known)
	for _, i := range vars {
		g.know(i)
	}
	for range g.Intn(3) {
		list = append(list, g.change(vars, 2))
	}
	g.known = known
	if g.free() {
		g.Shuffle(len(list), func(i, k int) { list[i], list[k] = list[k], list[i] })
	}
	return block(list...)
}

// surely returns a statement that sets all bits of variables.
func (g *grower) surely(vars []int, depth int) api.Stmt {
	kid := func() api.Stmt { return g.surely(vars, depth-1) }
	switch n := g.Intn(6); {
	case depth > 0 && n == 0:
		s := branch(g.expr(1, 2), kid(), kid())
		if g.free() {
			s.Kids = s.Kids[:1]
		}
		return s
	case depth > 0 && n == 1:
		return g.choice(kid, true)
	}
	var list []api.Stmt
	for _, i := range vars {
		for _, to := range g.elements(i) {
			list = append(list, set(to, g.expr(to.W, 2)))
		}
	}
	if len(list) > 1 && list[0].To.W+list[1].To.W <= 64 && g.Intn(4) == 0 {
		a, b := list[0], list[1]
		w := a.To.W + b.To.W
		list = append([]api.Stmt{set(op(api.Cat, w, a.To, b.To), g.expr(w, 2))}, list[2:]...)
	}
	return block(list...)
}

// choice returns a Case with kids; with complete, one of them is done for each value.
func (g *grower) choice(kid func() api.Stmt, complete bool) api.Stmt {
	w := 1 + g.Intn(2)
	s := api.Stmt{Op: api.Case, Args: []api.Expr{g.expr(w, 2)}}
	values := g.Perm(1 << w)
	for k, v := range values {
		s.Items = append(s.Items, api.Item{Match: []api.Expr{num(w, uint64(v))}, Do: kid()})
		if g.Intn(4) == 0 && k > 0 {
			s.Items[k].Match = nil
			s.Kind = g.Intn(3)
			s.Items = append(s.Items, api.Item{Match: []api.Expr{g.pattern(w, s.Kind), g.expr(w, 1)}, Do: kid()})
			return s
		}
	}
	if !complete || g.free() {
		s.Items = s.Items[1:]
	}
	return s
}

// pattern returns a constant that is a pattern.
func (g *grower) pattern(w, kind int) api.Expr {
	e := num(w, g.Uint64()>>(64-w))
	if kind != api.Exact || g.free() {
		e.N.X = g.Uint64() >> (64 - w)
	}
	return e
}

// change returns a statement that sets some bits of variables.
func (g *grower) change(vars []int, depth int) api.Stmt {
	kid := func() api.Stmt { return g.change(vars, depth-1) }
	n := g.Intn(6)
	switch {
	case g.free():
		return g.simulated(kid, depth, vars)
	case depth > 0 && n == 0:
		return branch(g.expr(1, 2), kid(), kid())
	case depth > 0 && n == 1:
		return g.choice(kid, false)
	case depth > 0 && n == 2:
		return block(kid(), kid())
	case n == 3:
		return api.Stmt{}
	}
	to := g.target(vars[g.Intn(len(vars))])
	return set(to, g.expr(to.W, 2))
}

// simulated returns a statement that only simulation knows, or another one that should not be there.
func (g *grower) simulated(kid func() api.Stmt, depth int, vars []int) api.Stmt {
	n := g.Intn(7)
	if g.local {
		n = g.Intn(2)
	}
	e := g.expr(1+g.Intn(3), 1)
	switch {
	case n < 2 && depth > 0:
		return api.Stmt{Op: api.While + n, Args: []api.Expr{e}, Kids: []api.Stmt{kid()}}
	case n == 2:
		return api.Stmt{Op: api.Show, Args: []api.Expr{e}}
	case n == 3:
		return api.Stmt{Op: api.Check, Args: []api.Expr{e}}
	case n == 4:
		return api.Stmt{Op: api.Stop}
	case n > 4:
		to := g.target(vars[g.Intn(len(vars))])
		s := put(to, g.expr(to.W, 1))
		if n > 5 {
			s.Args = append(s.Args, e)
		}
		return s
	}
	return api.Stmt{}
}

// function adds a function.
func (g *grower) function(i int) {
	f := api.Func{Name: "f" + strconv.Itoa(i), Args: g.Intn(3)}
	for k := range f.Args + 1 + g.Intn(2) {
		v := api.Signal{Name: "v" + strconv.Itoa(k), Kind: api.Var, W: g.width(), Signed: g.yes(), Elems: 1}
		if k > f.Args {
			v.Elems = 1 + g.Intn(3)
		}
		f.Vars = append(f.Vars, v)
	}
	outside := g.known
	g.signals, g.local, g.callees, g.known = f.Vars, true, i, nil
	for k := range f.Args {
		g.know(k)
	}
	var vars []int
	for k := f.Args; k < len(f.Vars); k++ {
		vars = append(vars, k)
	}
	f.Body = g.sets(vars)
	g.known = outside
	g.d.Funcs = append(g.d.Funcs, f)
	g.signals, g.local = g.d.Signals, false
}

// property adds a property.
func (g *grower) property(clock int) {
	p := api.Prop{Name: "p", Clock: clock, Later: g.yes()}
	p.From = api.Temporal{E: g.expr(1, 2)}
	p.To = api.Temporal{Op: api.Then, Hi: 2, Kids: []api.Temporal{{E: g.expr(3, 2)}, {Op: api.Either, Kids: []api.Temporal{{E: g.expr(1, 2)}}}}}
	g.d.Props = append(g.d.Props, p)
}

// index returns an index that is at most n.
func (g *grower) index(n int) api.Expr {
	if g.free() {
		e := g.expr(1+g.Intn(4), 1)
		if g.yes() {
			e = api.Expr{W: 3, N: api.Bits{W: 3, V: uint64(g.Intn(8)), X: uint64(g.Intn(2) * g.Intn(8))}, Signed: g.yes()}
		}
		return e
	}
	w := 0
	for 1<<(w+1)-1 <= n {
		w++
	}
	if w > 0 && g.Intn(3) > 0 {
		e := g.expr(w, 2)
		if e.Op != api.Const && !e.Signed {
			return e
		}
	}
	return num(6, uint64(g.Intn(n+1)))
}

// expr returns an expression of a width.
func (g *grower) expr(w, depth int) api.Expr {
	if depth <= 0 || g.Intn(4) == 0 {
		return g.leaf(w)
	}
	kid := func(w int) api.Expr { return g.expr(w, depth-1) }
	other := func() api.Expr { return kid(g.width()) }
	sign := func(e api.Expr) api.Expr {
		e.Signed = g.yes()
		return e
	}
	if g.free() && w == 64 && !g.local {
		return op(api.Now, 64)
	}
	switch g.Intn(14) {
	case 0:
		return sign(op([]int{api.Not, api.Neg}[g.Intn(2)], w, kid(w)))
	case 1, 2:
		return sign(op(api.And+g.Intn(api.Mul-api.And+1), w, kid(w), kid(w)))
	case 3:
		by := num(w, 1+g.Uint64()>>(64-w)%(1<<w-1|1))
		by.N.V &= 1<<w - 1
		by.N.V = max(by.N.V, 1)
		if g.free() {
			by = kid(w)
		}
		return sign(op([]int{api.Div, api.Mod}[g.Intn(2)], w, kid(w), by))
	case 4:
		return sign(op(api.Shl+g.Intn(3), w, kid(w), other()))
	case 5:
		return sign(op(api.Cond, w, other(), kid(w), kid(w)))
	case 6:
		return sign(op(api.Resize, w, other()))
	case 7:
		e := other()
		if e.W < w {
			return sign(op(api.Resize, w, e))
		}
		return sign(op(api.Part, w, e, g.index(e.W-w)))
	case 8:
		if e := other(); e.W >= w {
			return slice(w, g.Intn(e.W-w+1), e)
		}
	case 9:
		if w > 1 {
			at := 1 + g.Intn(w-1)
			return op(api.Cat, w, kid(at), kid(w-at))
		}
		return op(api.RedAnd+g.Intn(4), 1, other())
	case 10:
		if w%2 == 0 {
			return api.Expr{Op: api.Rep, W: w, At: 2, Kids: []api.Expr{kid(w / 2)}}
		}
	case 11:
		if w == 1 {
			of := g.width()
			return op(api.Eq+g.Intn(6), 1, kid(of), kid(of))
		}
	case 12:
		if g.callees > 0 {
			return g.call(w, depth)
		}
	}
	return g.leaf(w)
}

// call returns a call of a function, with a width.
func (g *grower) call(w, depth int) api.Expr {
	i := g.Intn(g.callees)
	f := g.d.Funcs[i]
	e := api.Expr{Op: api.Call, W: f.Vars[f.Args].W, At: i, Signed: g.yes()}
	for k := range f.Args {
		e.Kids = append(e.Kids, g.expr(f.Vars[k].W, depth-1))
	}
	return op(api.Resize, w, e)
}

// leaf returns a constant, or a signal that can be read.
func (g *grower) leaf(w int) api.Expr {
	if len(g.known) > 0 && g.Intn(8) > 0 {
		i := g.known[g.Intn(len(g.known))]
		if g.free() {
			i = g.Intn(len(g.signals))
		}
		s := g.signals[i]
		e := g.whole(i, num(3, 0))
		if s.Elems > 1 {
			e.Kids[0] = num(5, uint64(g.Intn(s.Elems)))
			if s.Elems%2 == 0 && g.yes() {
				if k := g.known[g.Intn(len(g.known))]; g.signals[k].Elems == 1 {
					e.Kids[0] = slice(1, 0, g.whole(k, api.Expr{}))
				}
			}
		}
		if s.W > w {
			return slice(w, g.Intn(s.W-w+1), e)
		}
		if s.W < w {
			return op(api.Resize, w, e)
		}
		return e
	}
	e := num(w, g.Uint64()>>(64-w))
	e.Signed = g.yes()
	if g.free() {
		e.N.X = g.Uint64() >> (64 - w)
	}
	return e
}
