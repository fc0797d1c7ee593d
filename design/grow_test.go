package design

import (
	"math/rand"
	"strconv"

	"maskwright/api"
)

// grower makes random valid designs.
type grower struct {
	*rand.Rand
	d       api.Design
	signals []api.Signal
	local   bool
	callees int
	kind    int // of the process; -1 in functions
}

// grown returns a random valid design.
func grown(seed int64) api.Design {
	g := &grower{Rand: rand.New(rand.NewSource(seed))}
	g.d.Name = "d" + strconv.FormatInt(seed, 10)
	for i := range 4 + g.Intn(8) {
		g.d.Signals = append(g.d.Signals, g.signal("s"+strconv.Itoa(i)))
	}
	for i := range g.Intn(4) {
		g.function(i)
	}
	g.signals, g.local, g.callees = g.d.Signals, false, len(g.d.Funcs)
	for range 1 + g.Intn(5) {
		g.process()
	}
	g.kind = api.Comb
	for i := range g.Intn(3) {
		p := api.Prop{Name: "p" + strconv.Itoa(i), Clock: g.single(), Later: g.yes(), Line: g.Intn(9)}
		p.From, p.To = g.sequence(2), g.sequence(3)
		g.d.Props = append(g.d.Props, p)
	}
	return g.d
}

func (g *grower) yes() bool { return g.Intn(2) == 0 }

// width returns a width.
func (g *grower) width() int { return []int{1, 1, 2, 3, 4, 4, 8, 63, 64}[g.Intn(9)] }

// vector returns a vector.
func (g *grower) vector(w int) api.Bits {
	mask := ^uint64(0) >> (64 - w)
	b := api.Bits{W: w, V: g.Uint64() & mask}
	if g.Intn(3) == 0 {
		b.V &= 7
	}
	if g.Intn(4) == 0 {
		b.X = g.Uint64() & mask
	}
	return b
}

// signal returns a signal of a design.
func (g *grower) signal(name string) api.Signal {
	s := api.Signal{Name: name, Kind: g.Intn(2), W: g.width(), Signed: g.yes(), Elems: 1}
	switch g.Intn(4) {
	case 0:
		s.Port, s.W = 1+g.Intn(2), 1+s.W%4
		if s.Port == api.In {
			s.Kind = api.Wire
		}
	case 1:
		s.Elems = 1 + g.Intn(4)
	}
	if s.Kind == api.Var && g.yes() {
		for range s.Elems {
			s.Init = append(s.Init, g.vector(s.W))
		}
	}
	return s
}

// single returns the number of a signal of one element; the first one becomes it if there is none.
func (g *grower) single() int {
	for range 20 {
		if i := g.Intn(len(g.d.Signals)); g.d.Signals[i].Elems == 1 {
			return i
		}
	}
	g.d.Signals[0] = api.Signal{Name: "s0", W: g.d.Signals[0].W, Elems: 1, Kind: g.d.Signals[0].Kind}
	return 0
}

// function adds a function.
func (g *grower) function(i int) {
	f := api.Func{Name: "f" + strconv.Itoa(i), Args: g.Intn(3)}
	for k := range f.Args + 1 + g.Intn(3) {
		v := api.Signal{Name: "v" + strconv.Itoa(k), Kind: api.Var, W: g.width(), Signed: g.yes(), Elems: 1}
		if k > f.Args {
			v.Elems = 1 + g.Intn(3)
		}
		f.Vars = append(f.Vars, v)
	}
	g.signals, g.local, g.callees, g.kind = f.Vars, true, i, -1
	f.Body = g.stmt(3)
	g.d.Funcs = append(g.d.Funcs, f)
}

// process adds a process.
func (g *grower) process() {
	p := api.Proc{Name: "p", Kind: g.Intn(5), Line: g.Intn(9)}
	g.kind = p.Kind
	if p.Kind == api.Seq {
		p.Edges = g.edges()
	}
	if p.Kind == api.Cont {
		to := g.target(2)
		if to.W == 0 {
			return
		}
		p.Body = set(to, g.expr(to.W, 3))
	} else {
		p.Body = g.stmt(4)
	}
	g.d.Procs = append(g.d.Procs, p)
}

// edges returns edges.
func (g *grower) edges() []api.Edge {
	var list []api.Edge
	for range 1 + g.Intn(3) {
		list = append(list, api.Edge{Kind: g.Intn(3), Sig: g.single()})
	}
	return list
}

// stmt returns a statement that may stand here.
func (g *grower) stmt(depth int) api.Stmt {
	s := api.Stmt{Op: g.Intn(api.Stop + 1), Line: g.Intn(9)}
	waits, local := g.kind >= api.Always, g.kind < 0
	switch s.Op {
	case api.Delay, api.On, api.Until:
		if !waits {
			s.Op = api.Set
		}
	case api.Put, api.Show, api.Check, api.Stop:
		if local {
			s.Op = api.Set
		}
	}
	if depth == 0 && s.Op <= api.Repeat {
		s.Op = api.Set
	}
	switch s.Op {
	case api.Block:
		for range g.Intn(4) {
			s.Kids = append(s.Kids, g.stmt(depth-1))
		}
	case api.If, api.While, api.Repeat:
		s.Args = g.exprs(1)
		s.Kids = append(s.Kids, g.stmt(depth-1))
		if s.Op == api.If && g.yes() {
			s.Kids = append(s.Kids, g.stmt(depth-1))
		}
	case api.Case:
		g.choice(&s, depth)
	case api.Set, api.Put:
		return g.assign(s, waits || s.Op == api.Put)
	case api.Delay, api.Until, api.Check:
		s.Args = g.exprs(1)
	case api.On:
		s.Edges = g.edges()
	case api.Show:
		s.Args, s.Kind = g.exprs(g.Intn(3)), g.Intn(4)
	}
	if s.Op == api.Show || s.Op == api.Check {
		s.Text = "t"[:g.Intn(2)]
	}
	return s
}

// assign makes a Set or Put of a statement, or nothing if there is no target.
func (g *grower) assign(s api.Stmt, late bool) api.Stmt {
	s.To = g.target(2)
	if s.To.W == 0 {
		return api.Stmt{}
	}
	s.Args = []api.Expr{g.expr(s.To.W, 3)}
	if late && g.yes() {
		s.Args = append(s.Args, g.expr(g.width(), 1))
	}
	return s
}

// choice makes a Case of a statement.
func (g *grower) choice(s *api.Stmt, depth int) {
	s.Args, s.Kind = g.exprs(1), g.Intn(3)
	other := g.Intn(6)
	for i := range g.Intn(4) {
		item := api.Item{Do: g.stmt(depth - 1)}
		for range 1 + g.Intn(2) {
			item.Match = append(item.Match, g.expr(s.Args[0].W, 1))
		}
		if i == other {
			item.Match = nil
		}
		s.Items = append(s.Items, item)
	}
}

// index returns an index; constants that are not too large are frequent.
func (g *grower) index() api.Expr {
	e := g.expr([]int{1, 2, 3, 4, 7, 64}[g.Intn(6)], 0)
	if g.Intn(3) > 0 || g.kind == api.Cont {
		e = api.Expr{Op: api.Const, W: e.W, N: g.vector(e.W), Signed: g.yes()}
	}
	return e
}

// target returns a target; one without width if nothing can be set.
func (g *grower) target(depth int) api.Expr {
	if depth > 0 && g.Intn(5) == 0 {
		a, b := g.target(depth-1), g.target(depth-1)
		if a.W > 0 && b.W > 0 && a.W+b.W <= 64 {
			return op(api.Cat, a.W+b.W, a, b)
		}
	}
	for range 20 {
		i := g.Intn(len(g.signals))
		s := g.signals[i]
		if s.Port == api.In || (s.Kind == api.Wire) != (g.kind == api.Cont) {
			continue
		}
		return g.piece(g.whole(i))
	}
	return api.Expr{}
}

// whole returns an expression for a signal, or an element of it.
func (g *grower) whole(i int) api.Expr {
	s := g.signals[i]
	e := api.Expr{Op: api.Ref, W: s.W, Sig: i, Local: g.local, Signed: g.yes()}
	if s.Elems > 1 || g.Intn(6) == 0 {
		e.Op, e.Kids = api.Elem, []api.Expr{g.index()}
	}
	return e
}

// piece returns an expression, or a piece of it.
func (g *grower) piece(e api.Expr) api.Expr {
	switch w := 1 + g.Intn(e.W); g.Intn(4) {
	case 0:
		return at(api.Slice, w, g.Intn(e.W-w+1), e)
	case 1:
		return op(api.Part, w, e, g.index())
	}
	return e
}

// exprs returns expressions of any widths.
func (g *grower) exprs(n int) []api.Expr {
	var list []api.Expr
	for range n {
		list = append(list, g.expr(g.width(), 2))
	}
	return list
}

// expr returns an expression of a width.
func (g *grower) expr(w, depth int) api.Expr {
	if depth <= 0 || g.Intn(4) == 0 {
		return g.leaf(w, depth)
	}
	if g.callees > 0 && g.Intn(5) == 0 {
		return g.call(w, depth)
	}
	kid := func(w int) api.Expr { return g.expr(w, depth-1) }
	any := func() api.Expr { return kid(g.width()) }
	e := api.Expr{Op: api.Elem + g.Intn(api.Now-api.Elem), W: w}
	e.Signed = hasSign(e.Op) && g.yes()
	bit := e.Op >= api.RedAnd && e.Op <= api.LOr || e.Op >= api.Eq && e.Op <= api.Le
	switch {
	case bit && w != 1:
		return kid(w)
	case e.Op <= api.Elem:
		return g.leaf(w, depth)
	case e.Op == api.Slice:
		width := w + g.Intn(65-w)
		e.At, e.Kids = g.Intn(width-w+1), []api.Expr{kid(width)}
	case e.Op == api.Part:
		e.Kids = []api.Expr{any(), g.index()}
	case e.Op == api.Not || e.Op == api.Neg:
		e.Kids = []api.Expr{kid(w)}
	case e.Op <= api.LNot || e.Op == api.Resize:
		e.Kids = []api.Expr{any()}
	case e.Op <= api.LOr:
		e.Kids = []api.Expr{any(), any()}
	case e.Op <= api.Mod:
		e.Kids = []api.Expr{kid(w), kid(w)}
	case e.Op <= api.Sar:
		e.Kids = []api.Expr{kid(w), any()}
	case e.Op <= api.Le:
		width := g.width()
		e.Kids = []api.Expr{kid(width), kid(width)}
	case e.Op == api.Cond:
		e.Kids = []api.Expr{any(), kid(w), kid(w)}
	case e.Op == api.Cat && w > 1:
		width := 1 + g.Intn(w-1)
		e.Kids = []api.Expr{kid(width), kid(w - width)}
	case e.Op == api.Rep && w%2 == 0:
		e.At, e.Kids = 2, []api.Expr{kid(w / 2)}
	case e.Op == api.Call:
		return g.call(w, depth)
	default:
		return kid(w)
	}
	return e
}

// call returns a call of a function with a result of a width, or another expression.
func (g *grower) call(w, depth int) api.Expr {
	for i := range g.callees {
		f := g.d.Funcs[i]
		if f.Vars[f.Args].W != w {
			continue
		}
		e := at(api.Call, w, i)
		for k := range f.Args {
			e.Kids = append(e.Kids, g.expr(f.Vars[k].W, depth-1))
		}
		return e
	}
	return g.leaf(w, depth)
}

// leaf returns a signal, a constant, or the time.
func (g *grower) leaf(w, depth int) api.Expr {
	if w == 64 && !g.local && g.Intn(9) == 0 {
		return op(api.Now, 64)
	}
	for range 5 {
		i := g.Intn(len(g.signals))
		if s := g.signals[i]; s.W == w && (s.Elems == 1 || depth >= 0) {
			if s.Elems == 1 && g.Intn(8) > 0 {
				return api.Expr{Op: api.Ref, W: w, Sig: i, Local: g.local, Signed: g.yes()}
			}
			return api.Expr{Op: api.Elem, W: w, Sig: i, Local: g.local, Kids: []api.Expr{g.leaf(3, -1)}}
		} else if s.W > w && s.Elems == 1 && g.yes() {
			return at(api.Slice, w, g.Intn(s.W-w+1), api.Expr{Op: api.Ref, W: s.W, Sig: i, Local: g.local})
		}
	}
	return api.Expr{Op: api.Const, W: w, N: g.vector(w), Signed: g.yes()}
}

// sequence returns a sequence.
func (g *grower) sequence(depth int) api.Temporal {
	t := api.Temporal{Op: g.Intn(api.Times + 1)}
	if depth == 0 {
		t.Op = api.Holds
	}
	kids := []int{0, 2, 1 + g.Intn(3), 2, 1}[t.Op]
	for range kids {
		t.Kids = append(t.Kids, g.sequence(depth-1))
	}
	switch t.Op {
	case api.Holds:
		t.E = g.expr(g.width(), 2)
	case api.Then, api.Times:
		t.Lo = g.Intn(MaxSpan + 1)
		t.Hi = t.Lo + g.Intn(MaxSpan+1-t.Lo)
		if g.Intn(3) == 0 {
			t.Hi = -1
		}
	}
	return t
}
