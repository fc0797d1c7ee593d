package design

import (
	"math"

	"maskwright/api"
)

// prop validates a property, but for its name.
func (c scope) prop(p api.Prop) api.Errno {
	switch {
	case p.Line < 0:
		return api.ErrRange
	case p.Clock < 0 || p.Clock >= len(c.signals):
		return api.ErrNone
	case c.signals[p.Clock].Elems > 1:
		return api.ErrType
	}
	return each([]api.Temporal{p.From, p.To}, c.sequence)
}

// sequence validates a sequence: first its kids, then itself.
func (c scope) sequence(t api.Temporal) api.Errno {
	if e := each(t.Kids, c.sequence); e != api.OK {
		return e
	}
	switch {
	case t.Op < api.Holds || t.Op > api.Times:
		return api.ErrRange
	case !hasParts(t):
		return api.ErrForm
	case isCounted(t) && (t.Lo < 0 || t.Lo > MaxSpan || t.Hi != -1 && (t.Hi < t.Lo || t.Hi > MaxSpan)):
		return api.ErrRange
	case t.Op == api.Holds:
		return c.expr(t.E)
	}
	return api.OK
}

// isCounted reports whether a sequence has bounds.
func isCounted(t api.Temporal) bool {
	return t.Op == api.Then || t.Op == api.Times
}

// hasParts reports whether a sequence has the kids that its operation needs, and no fields that it does not use.
func hasParts(t api.Temporal) bool {
	least, most := 2, 2
	switch t.Op {
	case api.Holds:
		least, most = 0, 0
	case api.Times:
		least, most = 1, 1
	case api.Either:
		least, most = 1, math.MaxInt
	}
	return len(t.Kids) >= least && len(t.Kids) <= most &&
		(isCounted(t) || t.Lo == 0 && t.Hi == 0) &&
		(t.Op == api.Holds || SameExpr(t.E, api.Expr{}))
}
