package lint

import (
	"maskwright/api"
	"maskwright/walk"
)

// parts looks at each statement and each expression by itself.
func (c *checker) parts() {
	for i, p := range c.Procs {
		if p.Kind == api.Always || p.Kind == api.Initial {
			c.breaks(Kind, inProc(i), -1)
		}
		walk.Stmts(p.Body, func(s api.Stmt) { c.stmt(inProc(i), s) })
	}
	for i, f := range c.Funcs {
		walk.Stmts(f.Body, func(s api.Stmt) { c.stmt(spot{-1, i}, s) })
	}
	for _, p := range c.Props {
		for _, t := range []api.Temporal{p.From, p.To} {
			walk.Sequence(t, func(e api.Expr) { c.exprs(nowhere, e) })
		}
	}
}

// stmt looks at a statement and its expressions, without the statements in it.
func (c *checker) stmt(at spot, s api.Stmt) {
	if isSimulated(s) {
		c.breaks(Kind, at, -1)
	}
	for _, e := range s.Args {
		c.exprs(at, e)
	}
	if walk.Assigns(s) {
		c.exprs(at, s.To)
	}
	for _, item := range s.Items {
		for _, e := range item.Match {
			// The states x and z of such a pattern say which bits fit.
			if s.Kind == api.Exact || e.Op != api.Const {
				c.exprs(at, e)
			}
		}
	}
}

// isSimulated reports whether only simulation knows a statement.
func isSimulated(s api.Stmt) bool {
	switch s.Op {
	case api.Nop, api.Block, api.If, api.Case:
		return false
	case api.Set, api.Put:
		return len(s.Args) == 2
	}
	return true
}

// exprs looks at an expression and all expressions in it.
func (c *checker) exprs(at spot, e api.Expr) {
	walk.Exprs(e, func(e api.Expr) { c.expr(at, e) })
}

// expr looks at an expression.
func (c *checker) expr(at spot, e api.Expr) {
	switch e.Op {
	case api.Now:
		c.breaks(Kind, at, -1)
	case api.Const:
		if isUnknown(e.N) {
			c.breaks(Unknown, at, -1)
		}
	case api.Ref:
		c.use(at, e)
	case api.Elem:
		c.use(at, e)
		if !isAtMost(e.Kids[0], c.signal(at, e).Elems-1) {
			c.breaks(Index, at, e.Sig)
		}
	case api.Part:
		if !isAtMost(e.Kids[1], e.Kids[0].W-e.W) {
			c.breaks(Index, at, -1)
		}
	case api.Div, api.Mod:
		if n := e.Kids[1]; n.Op != api.Const || isUnknown(n.N) || n.N.V == 0 {
			c.breaks(Division, at, -1)
		}
	}
}

// use looks at a Ref or Elem, which must not be of the clock.
func (c *checker) use(at spot, e api.Expr) {
	if !e.Local && e.Sig == c.clock {
		c.breaks(Clock, at, c.clock)
	}
}

// signal returns the signal, or the variable of a function, of a Ref or Elem.
func (c *checker) signal(at spot, e api.Expr) api.Signal {
	if e.Local {
		return c.Funcs[at.function].Vars[e.Sig]
	}
	return c.Signals[e.Sig]
}

// isAtMost reports whether the value of an expression can only be a number from 0 to n.
func isAtMost(e api.Expr, n int) bool {
	most := uint64(0)
	switch {
	case n < 0:
		return false
	case e.Op == api.Const:
		if isUnknown(e.N) || e.Signed && e.N.V>>(e.W-1) == 1 {
			return false
		}
		most = e.N.V
	case e.Signed || e.W >= 32:
		return false
	default:
		most = 1<<e.W - 1
	}
	return most <= uint64(n)
}
