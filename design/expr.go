package design

import (
	"math"

	"maskwright/api"
	"maskwright/bits"
)

// scope is a place of a design where expressions and statements stand.
type scope struct {
	design  api.Design
	signals []api.Signal // that can be named
	local   bool         // in a function
	callees int          // the functions before this one can be called
	wires   bool         // wires are set, not variables
	waits   bool         // it can wait
}

// outside returns the scope outside of functions, in a process that sets variables and does not wait.
func outside(d api.Design) scope {
	return scope{design: d, signals: d.Signals, callees: len(d.Funcs)}
}

// inside returns the scope of the body of a function.
func inside(d api.Design, function int) scope {
	return scope{design: d, signals: d.Funcs[function].Vars, local: true, callees: function}
}

// expr validates an expression: first its kids, then itself.
func (c scope) expr(e api.Expr) api.Errno {
	if err := each(e.Kids, c.expr); err != api.OK {
		return err
	}
	switch {
	case e.Op < api.Const || e.Op > api.Now || e.W < 1 || e.W > api.MaxWidth:
		return api.ErrRange
	case !hasKids(e) || hasMore(e):
		return api.ErrForm
	}
	switch e.Op {
	case api.Ref, api.Elem:
		return c.named(e)
	case api.Call:
		return c.call(e)
	case api.Now:
		if c.local {
			return api.ErrType
		}
	}
	if !fits(e) {
		return api.ErrWidth
	}
	return api.OK
}

// hasKids reports whether an expression has as many kids as its operation needs.
func hasKids(e api.Expr) bool {
	least, most := 2, 2
	switch e.Op {
	case api.Const, api.Ref, api.Now:
		least, most = 0, 0
	case api.Elem, api.Slice, api.Not, api.Neg, api.RedAnd, api.RedOr, api.RedXor, api.LNot, api.Rep, api.Resize:
		least, most = 1, 1
	case api.Cond:
		least, most = 3, 3
	case api.Cat:
		least, most = 1, math.MaxInt
	case api.Call:
		least, most = 0, math.MaxInt
	}
	return len(e.Kids) >= least && len(e.Kids) <= most
}

// hasMore reports whether an expression has a field that its operation does not use.
func hasMore(e api.Expr) bool {
	return e.Op != api.Const && e.N != api.Bits{} ||
		!isNamed(e) && (e.Sig != 0 || e.Local) ||
		e.Op != api.Slice && e.Op != api.Rep && e.Op != api.Call && e.At != 0 ||
		e.Signed && !hasSign(e.Op)
}

// isNamed reports whether an expression is a signal, or an element of one.
func isNamed(e api.Expr) bool {
	return e.Op == api.Ref || e.Op == api.Elem
}

// hasSign reports whether an operation has a sign: others give a single bit and do not compare numbers.
func hasSign(op int) bool {
	switch op {
	case api.RedAnd, api.RedOr, api.RedXor, api.LNot, api.LAnd, api.LOr, api.Eq, api.Ne, api.CaseEq, api.CaseNe:
		return false
	}
	return true
}

// named validates a Ref or an Elem.
func (c scope) named(e api.Expr) api.Errno {
	if e.Local != c.local || e.Sig < 0 || e.Sig >= len(c.signals) {
		return api.ErrNone
	}
	s := c.signals[e.Sig]
	switch {
	case e.Op == api.Ref && s.Elems > 1:
		return api.ErrType
	case e.W != s.W:
		return api.ErrWidth
	}
	return api.OK
}

// call validates a Call. In a design that is not valid, a function can have too few variables.
func (c scope) call(e api.Expr) api.Errno {
	switch {
	case e.At < 0 || e.At >= len(c.design.Funcs):
		return api.ErrNone
	case e.At >= c.callees:
		return api.ErrLoop
	}
	f := c.design.Funcs[e.At]
	if len(e.Kids) != f.Args || f.Args >= len(f.Vars) {
		return api.ErrForm
	}
	for i, kid := range e.Kids {
		if kid.W != f.Vars[i].W {
			return api.ErrWidth
		}
	}
	if e.W != f.Vars[f.Args].W {
		return api.ErrWidth
	}
	return api.OK
}

// fits reports whether the widths of an operation and of its kids fit.
func fits(e api.Expr) bool {
	kid := func(i int) int { return e.Kids[i].W }
	switch e.Op {
	case api.Const:
		return bits.Check(e.N) == api.OK && e.N.W == e.W
	case api.Now:
		return e.W == 64
	case api.Slice:
		return e.At >= 0 && e.At <= kid(0)-e.W
	case api.Part, api.Resize:
		return true
	case api.RedAnd, api.RedOr, api.RedXor, api.LNot, api.LAnd, api.LOr:
		return e.W == 1
	case api.Eq, api.Ne, api.CaseEq, api.CaseNe, api.Lt, api.Le:
		return e.W == 1 && kid(0) == kid(1)
	case api.Not, api.Neg, api.Shl, api.Shr, api.Sar:
		return kid(0) == e.W
	case api.Cond:
		return kid(1) == e.W && kid(2) == e.W
	case api.Cat:
		sum := 0
		for i := range e.Kids {
			sum += kid(i)
		}
		return sum == e.W
	case api.Rep:
		return e.At >= 1 && e.At <= api.MaxWidth && e.At*kid(0) == e.W
	}
	return kid(0) == e.W && kid(1) == e.W
}
