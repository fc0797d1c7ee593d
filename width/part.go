package width

import (
	"maskwright/api"
	S "maskwright/syntax"
)

// part is an expression of a source without a fault: its own type, and its value in a context, which is not narrower.
type part struct {
	node   S.Node
	w      int
	signed bool
	in     func(w int, signed bool) api.Expr
}

// own returns the value in the context of the own type.
func (p part) own() api.Expr {
	return p.in(p.w, p.signed)
}

// assigned returns the value as that of a target of w bits.
func (p part) assigned(w int) api.Expr {
	return resized(p.in(max(p.w, w), p.signed), w, p.signed)
}

// alone returns a part with a value of its own, which contexts only extend.
func alone(e api.Expr, signed bool) part {
	extend := func(w int, signed bool) api.Expr { return resized(e, w, signed) }
	return part{w: e.W, signed: signed, in: extend}
}

// common returns the greatest width of parts, and whether all are signed.
func common(parts []part) (int, bool) {
	w, signed := 0, true
	for _, p := range parts {
		w = max(w, p.w)
		signed = signed && p.signed
	}
	return w, signed
}

// owns returns the values of parts in the contexts of their own types.
func owns(parts []part) []api.Expr {
	var values []api.Expr
	for _, p := range parts {
		values = append(values, p.own())
	}
	return values
}

// parts looks at expressions in order.
func (env Env) parts(l []S.Node) ([]part, Fault) {
	var parts []part
	for _, n := range l {
		p, f := env.part(n)
		if f.Code != api.OK {
			return nil, f
		}
		parts = append(parts, p)
	}
	return parts, Fault{}
}

// part looks at an expression: first at its kids, then at itself.
func (env Env) part(n S.Node) (part, Fault) {
	p, f := env.looked(n)
	if f.Code != api.OK {
		return part{}, f
	}
	p.node = n
	return p, Fault{}
}

// looked looks at an expression; the node of the result can be that of a kid.
func (env Env) looked(n S.Node) (part, Fault) {
	switch {
	case n.Kind < S.Num || n.Kind > S.Now:
		return part{}, fault(n, api.ErrType, "")
	case !hasForm(n):
		return part{}, fault(n, api.ErrForm, "")
	case isPlace(n):
		return env.placed(n)
	case n.Kind == S.Call:
		return env.call(n)
	}
	kids, f := env.parts(n.Kids)
	if f.Code != api.OK {
		return part{}, f
	}
	return env.made(n, kids)
}

// hasForm reports whether an expression has as many kids as its kind needs. (In valid trees all have.)
func hasForm(n S.Node) bool {
	count := len(n.Kids)
	switch n.Kind {
	case S.Call:
		return true
	case S.Cat:
		return count > 0
	case S.Num, S.Name, S.Now:
		return count == 0
	case S.Select, S.Plus, S.Neg, S.LNot, S.Not, S.RedAnd, S.RedOr, S.RedXor, S.Signed, S.Unsigned, S.Width, S.Log:
		return count == 1
	case S.Slice, S.Part, S.Cond:
		return count == 3
	}
	return count == 2
}

// call looks at a call: at its name and the number of its arguments before the arguments themselves.
func (env Env) call(n S.Node) (part, Fault) {
	t, ok := env.Names[n.Name]
	switch {
	case !ok:
		return part{}, fault(n, api.ErrNone, n.Name)
	case t.Kind != Func:
		return part{}, fault(n, api.ErrType, n.Name)
	case len(n.Kids) != len(t.Args):
		return part{}, fault(n, api.ErrForm, n.Name)
	}
	args, f := env.parts(n.Kids)
	if f.Code != api.OK {
		return part{}, f
	}
	e := api.Expr{Op: api.Call, W: t.Type.W, Signed: t.Type.Signed, At: t.Sig}
	for i, p := range args {
		e.Kids = append(e.Kids, p.assigned(t.Args[i].W))
	}
	return alone(e, t.Type.Signed), Fault{}
}
