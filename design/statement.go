package design

import (
	"math"
	"strings"

	"maskwright/api"
	"maskwright/walk"
)

// shape is what a statement of an operation has: how many Args and Kids, and which other fields, each one with a letter.
type shape struct {
	minArgs, maxArgs int
	minKids, maxKids int
	fields           string
}

// shapeOf returns the shape of the statements of an operation.
func shapeOf(op int) shape {
	switch op {
	case api.Block:
		return shape{0, 0, 0, math.MaxInt, ""}
	case api.If:
		return shape{1, 1, 1, 2, ""}
	case api.While, api.Repeat:
		return shape{1, 1, 1, 1, ""}
	case api.Case:
		return shape{1, 1, 0, 0, "IK"}
	case api.Set, api.Put:
		return shape{1, 2, 0, 0, "T"}
	case api.Delay, api.Until:
		return shape{1, 1, 0, 0, ""}
	case api.On:
		return shape{0, 0, 0, 0, "E"}
	case api.Show:
		return shape{0, math.MaxInt, 0, 0, "XK"}
	case api.Check:
		return shape{1, 1, 0, 0, "X"}
	}
	return shape{}
}

// hasShape reports whether a statement has the shape of its operation.
func hasShape(s api.Stmt) bool {
	f := shapeOf(s.Op)
	has := func(letter byte) bool { return strings.IndexByte(f.fields, letter) >= 0 }
	switch {
	case len(s.Args) < f.minArgs || len(s.Args) > f.maxArgs || len(s.Kids) < f.minKids || len(s.Kids) > f.maxKids:
		return false
	case !has('T') && !SameExpr(s.To, api.Expr{}):
		return false
	case !has('I') && len(s.Items) > 0:
		return false
	case !has('K') && s.Kind != 0:
		return false
	case has('E') != (len(s.Edges) > 0):
		return false
	}
	return has('X') || s.Text == ""
}

// stmt validates a statement and its parts.
func (c scope) stmt(s api.Stmt) api.Errno {
	switch {
	case s.Op < api.Nop || s.Op > api.Stop || s.Line < 0:
		return api.ErrRange
	case !hasShape(s):
		return api.ErrForm
	case len(s.Edges) > MaxEdges || len(s.Text) > MaxShown:
		return api.ErrLarge
	case !c.permits(s):
		return api.ErrType
	}
	if e := each(s.Args, c.expr); e != api.OK {
		return e
	}
	if e := each(s.Edges, c.edge); e != api.OK {
		return e
	}
	if e := c.assigned(s); e != api.OK {
		return e
	}
	if s.Op == api.Case && !isKind(s.Kind, api.WildX) || s.Op == api.Show && !isKind(s.Kind, api.Monitor) {
		return api.ErrRange
	}
	if e := each(s.Kids, c.stmt); e != api.OK {
		return e
	}
	return c.items(s)
}

// permits reports whether a statement may stand here.
func (c scope) permits(s api.Stmt) bool {
	switch s.Op {
	case api.Put, api.Show, api.Check, api.Stop:
		return !c.local
	case api.Delay, api.On, api.Until:
		return c.waits
	case api.Set:
		return c.waits || len(s.Args) == 1
	}
	return true
}

// isKind reports whether a kind is from 0 to the last one.
func isKind(kind, last int) bool {
	return kind >= 0 && kind <= last
}

// assigned validates the target of a Set or Put.
func (c scope) assigned(s api.Stmt) api.Errno {
	if !walk.Assigns(s) {
		return api.OK
	}
	if e := c.expr(s.To); e != api.OK {
		return e
	}
	if e := c.target(s.To); e != api.OK {
		return e
	}
	if s.To.W != s.Args[0].W {
		return api.ErrWidth
	}
	return api.OK
}

// target validates a valid expression as a target.
func (c scope) target(e api.Expr) api.Errno {
	if e.Op == api.Cat {
		return each(e.Kids, c.target)
	}
	whole, ok := walk.Whole(e)
	if !ok {
		return api.ErrForm
	}
	s := c.signals[whole.Sig]
	if s.Port == api.In || c.wires != (s.Kind == api.Wire) {
		return api.ErrType
	}
	for _, i := range walk.Indices(e) {
		if c.wires && i.Op != api.Const {
			return api.ErrConst
		}
	}
	return api.OK
}

// items validates the items of a Case.
func (c scope) items(s api.Stmt) api.Errno {
	defaults := 0
	return each(s.Items, func(item api.Item) api.Errno {
		match := func(e api.Expr) api.Errno {
			err := c.expr(e)
			if err == api.OK && e.W != s.Args[0].W {
				err = api.ErrWidth
			}
			return err
		}
		if e := each(item.Match, match); e != api.OK {
			return e
		}
		if len(item.Match) == 0 {
			defaults++
		}
		if defaults > 1 {
			return api.ErrTwice
		}
		return c.stmt(item.Do)
	})
}

// edge validates an edge.
func (c scope) edge(g api.Edge) api.Errno {
	switch {
	case !isKind(g.Kind, api.Fall):
		return api.ErrRange
	case g.Sig < 0 || g.Sig >= len(c.signals):
		return api.ErrNone
	case c.signals[g.Sig].Elems > 1:
		return api.ErrType
	}
	return api.OK
}

// proc validates a process.
func (c scope) proc(p api.Proc) api.Errno {
	switch {
	case !Name(p.Name):
		return api.ErrName
	case !isKind(p.Kind, api.Initial) || p.Line < 0:
		return api.ErrRange
	case (p.Kind == api.Seq) != (len(p.Edges) > 0), p.Kind == api.Cont && p.Body.Op != api.Set:
		return api.ErrForm
	}
	if e := each(p.Edges, c.edge); e != api.OK {
		return e
	}
	c.wires = p.Kind == api.Cont
	c.waits = p.Kind == api.Always || p.Kind == api.Initial
	return c.stmt(p.Body)
}
