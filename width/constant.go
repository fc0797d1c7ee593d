package width

import (
	"math"
	"slices"

	"maskwright/api"
	"maskwright/bits"
	"maskwright/eval"
)

// Constant returns a constant expression.
func Constant(b api.Bits, signed bool) api.Expr {
	return api.Expr{Op: api.Const, W: b.W, Signed: signed, N: b}
}

// has reports whether a value has an operation of which f is true.
func has(e api.Expr, f func(op int) bool) bool {
	return f(e.Op) || slices.ContainsFunc(e.Kids, func(kid api.Expr) bool { return has(kid, f) })
}

// isOpen reports whether a value names a signal or the time.
func isOpen(e api.Expr) bool {
	return has(e, func(op int) bool { return op == api.Ref || op == api.Elem || op == api.Now })
}

// number returns the value of a part that must be a constant.
func (env Env) number(p part) (api.Bits, Fault) {
	e := p.own()
	if isOpen(e) {
		return api.Bits{}, fault(p.node, api.ErrConst, "")
	}
	d := api.Design{Name: "constants"}
	if has(e, func(op int) bool { return op == api.Call }) {
		d.Funcs = env.Funcs // only where they are needed: they are checked each time
	}
	b, err := eval.Expr(d, eval.State{}, e)
	if err != api.OK {
		return api.Bits{}, fault(p.node, err, "")
	}
	return b, Fault{}
}

// integer returns the value of a part that must be a constant, as a number from lo to hi.
func (env Env) integer(p part, lo, hi int64) (int64, Fault) {
	b, f := env.number(p)
	if f.Code != api.OK {
		return 0, f
	}
	v, known := bits.Int(b)
	if !known {
		return 0, fault(p.node, api.ErrConst, "")
	}
	if !p.signed {
		u, _ := bits.Uint(b)
		if u > math.MaxInt64 {
			return 0, fault(p.node, api.ErrRange, "")
		}
		v = int64(u)
	}
	if v < lo || v > hi {
		return 0, fault(p.node, api.ErrRange, "")
	}
	return v, Fault{}
}
