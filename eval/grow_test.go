package eval_test

import (
	"math/rand"
	"strconv"

	"maskwright/api"
)

// grower makes random valid designs, expressions and statements. A tame one makes only what has known values in known states.
type grower struct {
	*rand.Rand
	d       api.Design
	signals []api.Signal // that can be named
	local   bool         // in a function
	callees int
	kind    int // of the process; -1 in functions
	tame    bool
}

// grow returns a grower with a design.
func grow(seed int64, tame bool) *grower {
	g := &grower{Rand: rand.New(rand.NewSource(seed)), tame: tame}
	g.d.Name = "d"
	for i := range 5 + g.Intn(6) {
		s := g.variable("s"+strconv.Itoa(i), 1+3*g.Intn(2))
		if i > 1 && g.Intn(3) == 0 {
			s.Kind = api.Wire
		}
		if s.Kind == api.Var && g.yes() {
			for range s.Elems {
				s.Init = append(s.Init, g.vector(s.W))
			}
		}
		g.d.Signals = append(g.d.Signals, s)
	}
	for range g.Intn(4) {
		g.function()
	}
	g.signals, g.local, g.callees = g.d.Signals, false, len(g.d.Funcs)
	for kind := range api.Initial + 1 {
		g.process(kind)
	}
	g.kind = api.Initial
	return g
}

func (g *grower) yes() bool { return g.Intn(2) == 0 }

// width returns a width.
func (g *grower) width() int { return []int{1, 1, 2, 3, 4, 4, 5, 8, 63, 64}[g.Intn(10)] }

// vector returns a vector.
func (g *grower) vector(w int) api.Bits {
	mask := ^uint64(0) >> (64 - w)
	b := api.Bits{W: w, V: g.Uint64() & mask}
	if g.Intn(3) == 0 {
		b.V &= 7
	}
	if g.Intn(4) == 0 && !g.tame {
		b.X = g.Uint64() & g.Uint64() & mask
	}
	return b
}

// variable returns a variable.
func (g *grower) variable(name string, elems int) api.Signal {
	return api.Signal{Name: name, Kind: api.Var, W: g.width(), Signed: g.yes(), Elems: elems}
}

// state returns the elements of all signals.
func (g *grower) state() [][]api.Bits {
	var sigs [][]api.Bits
	for _, s := range g.d.Signals {
		var list []api.Bits
		for range s.Elems {
			list = append(list, g.vector(s.W))
		}
		sigs = append(sigs, list)
	}
	return sigs
}

// function adds a function. All variables of a tame one get values first.
func (g *grower) function() {
	i := len(g.d.Funcs)
	f := api.Func{Name: "f" + strconv.Itoa(i), Args: g.Intn(3)}
	for k := range f.Args + 1 + g.Intn(3) {
		elems := 1
		if k > f.Args {
			elems = 1 + g.Intn(3)
		}
		f.Vars = append(f.Vars, g.variable("v"+strconv.Itoa(k), elems))
	}
	g.signals, g.local, g.callees, g.kind = f.Vars, true, i, -1
	body := block()
	for k, s := range f.Vars {
		for n := range s.Elems {
			if g.tame && k >= f.Args {
				body.Kids = append(body.Kids, set(local(elem(k, s.W, num(8, uint64(n)))), api.Expr{Op: api.Const, W: s.W, N: g.vector(s.W)}))
			}
		}
	}
	body.Kids = append(body.Kids, g.stmt(3), g.stmt(2))
	f.Body = body
	g.d.Funcs = append(g.d.Funcs, f)
}

// process adds a process.
func (g *grower) process(kind int) {
	p := api.Proc{Name: "p", Kind: kind}
	g.kind = kind
	if kind == api.Seq {
		for i, s := range g.d.Signals {
			if s.Elems == 1 || i == len(g.d.Signals)-1 {
				g.d.Signals[i].Elems = 1
				g.d.Signals[i].Init = nil
				p.Edges = []api.Edge{{Sig: i}}
				break
			}
		}
	}
	p.Body = g.stmt(4)
	if kind == api.Cont {
		p.Body = g.assign(api.Set)
		if p.Body.Op != api.Set {
			p.Kind = api.Comb
		}
	}
	if kind != api.Cont || p.Kind == api.Cont {
		g.d.Procs = append(g.d.Procs, p)
	}
}

// stmt returns a statement that may stand here.
func (g *grower) stmt(depth int) api.Stmt {
	kind := []int{api.Nop, api.Block, api.Block, api.If, api.If, api.Case, api.Case, api.While, api.Repeat, api.Set, api.Set, api.Put, api.Put, api.Delay + g.Intn(6)}[g.Intn(14)]
	if depth <= 0 && kind <= api.Repeat || g.kind < 0 && kind > api.Set || g.tame && kind >= api.Delay {
		kind = api.Set
	}
	if g.kind >= 0 && g.kind < api.Always && (kind == api.Delay || kind == api.On || kind == api.Until) {
		kind = api.Put
	}
	x := api.Stmt{Op: kind}
	switch kind {
	case api.Block:
		for range g.Intn(4) {
			x.Kids = append(x.Kids, g.stmt(depth-1))
		}
	case api.If:
		x.Args = []api.Expr{g.expr(g.width(), 2)}
		for range 1 + g.Intn(2) {
			x.Kids = append(x.Kids, g.stmt(depth-1))
		}
	case api.Case:
		return g.choice(depth)
	case api.While, api.Repeat:
		x.Args, x.Kids = []api.Expr{g.expr(1+g.Intn(4), 2)}, []api.Stmt{g.stmt(depth - 1)}
	case api.Set, api.Put:
		return g.assign(kind)
	case api.Delay, api.Until, api.Check:
		x.Args = []api.Expr{g.expr(4, 1)}
	case api.On:
		return api.Stmt{Op: api.Stop}
	}
	return x
}

// choice returns a Case.
func (g *grower) choice(depth int) api.Stmt {
	subject := g.expr(1+g.Intn(3), 2)
	x := choice(g.Intn(3), subject)
	other := g.Intn(6)
	for i := range g.Intn(5) {
		it := item(g.stmt(depth - 1))
		for range 1 + g.Intn(2) {
			it.Match = append(it.Match, g.expr(subject.W, g.Intn(2)))
		}
		if i == other {
			it.Match = nil
		}
		x.Items = append(x.Items, it)
	}
	return x
}

// assign returns a Set or Put, or nothing if there is no target.
func (g *grower) assign(kind int) api.Stmt {
	to := g.target(2)
	if to.W == 0 {
		return api.Stmt{}
	}
	x := api.Stmt{Op: kind, To: to, Args: []api.Expr{g.expr(to.W, 3)}}
	if kind == api.Put && g.yes() || kind == api.Set && g.kind >= api.Always && !g.tame && g.Intn(40) == 0 {
		x.Args = append(x.Args, g.expr(g.width(), 1))
	}
	return x
}

// target returns a target; one without width if nothing can be set.
func (g *grower) target(depth int) api.Expr {
	if depth > 0 && g.Intn(4) == 0 {
		a, b := g.target(depth-1), g.target(depth-1)
		if a.W > 0 && b.W > 0 && a.W+b.W <= 64 {
			return op(api.Cat, a.W+b.W, a, b)
		}
	}
	for range 20 {
		i := g.Intn(len(g.signals))
		if (g.signals[i].Kind == api.Wire) == (g.kind == api.Cont) {
			return g.piece(g.whole(i))
		}
	}
	return api.Expr{}
}

// whole returns an expression for a signal, or an element of it.
func (g *grower) whole(i int) api.Expr {
	s := g.signals[i]
	e := api.Expr{Op: api.Ref, W: s.W, Sig: i, Local: g.local, Signed: g.yes()}
	if s.Elems > 1 || g.Intn(6) == 0 {
		e.Op, e.Kids = api.Elem, []api.Expr{g.index(s.Elems)}
	}
	return e
}

// piece returns an expression, or a piece of it.
func (g *grower) piece(e api.Expr) api.Expr {
	switch w := 1 + g.Intn(e.W); g.Intn(4) {
	case 0:
		return slice(w, g.Intn(e.W-w+1), e)
	case 1:
		return part(w, e, g.index(e.W-w+1))
	}
	return e
}

// index returns an index. A tame one has a number below n; others are often small, or a bit too large, or negative.
func (g *grower) index(n int) api.Expr {
	if g.tame {
		if g.kind == api.Cont || g.yes() {
			return num(7, uint64(g.Intn(n)))
		}
		return op(api.Mod, 7, g.expr(7, 1), num(7, uint64(n)))
	}
	w := []int{1, 2, 3, 4, 7, 8, 64}[g.Intn(7)]
	e := api.Expr{Op: api.Const, W: w, N: g.vector(w), Signed: g.yes()}
	if g.kind != api.Cont && g.yes() {
		e = g.expr(w, 1)
	}
	return e
}

// expr returns an expression of a width.
func (g *grower) expr(w, depth int) api.Expr {
	if depth <= 0 || g.Intn(5) == 0 {
		return g.leaf(w)
	}
	kid := func(w int) api.Expr { return g.expr(w, depth-1) }
	any := func() api.Expr { return kid(g.width()) }
	if g.callees > 0 && g.Intn(5) == 0 {
		if e := g.call(w, kid); e.W > 0 {
			return e
		}
	}
	if w == 1 && g.yes() {
		return g.bit(any, kid)
	}
	e := api.Expr{W: w, Signed: g.yes()}
	switch g.Intn(9) {
	case 0:
		width := w + g.Intn(65-w)
		e.Op, e.At, e.Kids = api.Slice, g.Intn(width-w+1), []api.Expr{kid(width)}
	case 1:
		width := w + g.Intn(65-w)
		e.Op, e.Kids = api.Part, []api.Expr{kid(width), g.index(width - w + 1)}
	case 2:
		e.Op, e.Kids = []int{api.Not, api.Neg}[g.Intn(2)], []api.Expr{kid(w)}
	case 3:
		e.Op, e.Kids = []int{api.And, api.Or, api.Xor, api.Add, api.Sub, api.Mul}[g.Intn(6)], []api.Expr{kid(w), kid(w)}
	case 4:
		e.Op, e.Kids = []int{api.Div, api.Mod}[g.Intn(2)], []api.Expr{kid(w), g.divisor(kid(w))}
	case 5:
		e.Op, e.Kids = []int{api.Shl, api.Shr, api.Sar}[g.Intn(3)], []api.Expr{kid(w), kid(1 + g.Intn(6))}
	case 6:
		e.Op, e.Kids = api.Cond, []api.Expr{any(), kid(w), kid(w)}
	case 7:
		e.Op, e.Kids = api.Resize, []api.Expr{any()}
	case 8:
		return g.joined(e, kid)
	}
	return e
}

// divisor returns a divisor; a tame one is not 0.
func (g *grower) divisor(e api.Expr) api.Expr {
	if g.tame {
		return op(api.Or, e.W, e, num(e.W, 1))
	}
	return e
}

// joined returns a Cat or a Rep.
func (g *grower) joined(e api.Expr, kid func(int) api.Expr) api.Expr {
	if n := 1 + g.Intn(4); g.yes() && e.W%n == 0 {
		e.Op, e.At, e.Kids = api.Rep, n, []api.Expr{kid(e.W / n)}
		return e
	}
	e.Op = api.Cat
	for left := e.W; left > 0; {
		w := 1 + g.Intn(left)
		e.Kids = append(e.Kids, kid(w))
		left -= w
	}
	return e
}

// bit returns an expression with an operation that has a single bit.
func (g *grower) bit(any func() api.Expr, kid func(int) api.Expr) api.Expr {
	e := api.Expr{W: 1}
	switch w := g.width(); g.Intn(4) {
	case 0:
		e.Op, e.Kids = []int{api.RedAnd, api.RedOr, api.RedXor, api.LNot}[g.Intn(4)], []api.Expr{any()}
	case 1:
		e.Op, e.Kids = []int{api.LAnd, api.LOr}[g.Intn(2)], []api.Expr{any(), any()}
	case 2:
		e.Op, e.Kids = []int{api.Eq, api.Ne, api.CaseEq, api.CaseNe}[g.Intn(4)], []api.Expr{kid(w), kid(w)}
	case 3:
		e.Op, e.Signed, e.Kids = []int{api.Lt, api.Le}[g.Intn(2)], g.yes(), []api.Expr{kid(w), kid(w)}
	}
	return e
}

// call returns a call of a function with a result of a width, or nothing.
func (g *grower) call(w int, kid func(int) api.Expr) api.Expr {
	for i := range g.callees {
		f := g.d.Funcs[i]
		if f.Vars[f.Args].W != w || g.Intn(3) == 0 {
			continue
		}
		e := api.Expr{Op: api.Call, W: w, At: i, Signed: g.yes()}
		for k := range f.Args {
			e.Kids = append(e.Kids, kid(f.Vars[k].W))
		}
		return e
	}
	return api.Expr{}
}

// leaf returns a signal, a piece of one, a constant, or the time.
func (g *grower) leaf(w int) api.Expr {
	if w == 64 && !g.local && g.Intn(4) == 0 {
		return op(api.Now, 64)
	}
	for range 5 {
		i := g.Intn(len(g.signals))
		s := g.signals[i]
		if s.W < w || s.W > w && g.yes() {
			continue
		}
		e := api.Expr{Op: api.Ref, W: s.W, Sig: i, Local: g.local, Signed: g.yes()}
		if s.Elems > 1 {
			e.Op, e.Kids = api.Elem, []api.Expr{num(3, uint64(g.Intn(s.Elems)))}
		}
		if s.W > w {
			e = slice(w, g.Intn(s.W-w+1), e)
		}
		return e
	}
	return api.Expr{Op: api.Const, W: w, N: g.vector(w), Signed: g.yes()}
}
