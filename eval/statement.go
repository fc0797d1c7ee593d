package eval

import (
	"maskwright/api"
	"maskwright/bits"
)

// do does a statement, unless something before it has failed.
func (c *scope) do(x *api.Stmt) {
	if c.run.err != api.OK {
		return
	}
	switch x.Op {
	case api.Nop:
	case api.Block:
		for i := range x.Kids {
			c.do(&x.Kids[i])
		}
	case api.If:
		c.branch(x)
	case api.Case:
		if k := c.choice(x); k >= 0 {
			c.do(&x.Items[k].Do)
		}
	case api.While:
		for c.isTrue(&x.Args[0]) && c.run.turn() {
			c.do(&x.Kids[0])
		}
	case api.Repeat:
		c.repeat(x)
	case api.Set:
		c.set(x)
	case api.Put:
		c.put(x)
	default:
		c.run.err = api.ErrState
	}
}

// isTrue reports whether an expression is true.
func (c *scope) isTrue(e *api.Expr) bool {
	return bits.True(c.value(e)) == 1
}

// branch does an If.
func (c *scope) branch(x *api.Stmt) {
	if c.isTrue(&x.Args[0]) {
		c.do(&x.Kids[0])
	} else if len(x.Kids) > 1 {
		c.do(&x.Kids[1])
	}
}

// repeat does a Repeat. One turn more than permitted is enough to fail.
func (c *scope) repeat(x *api.Stmt) {
	n, _ := c.number(&x.Args[0], api.MaxTurns+1)
	for i := 0; i < n && c.run.turn(); i++ {
		c.do(&x.Kids[0])
	}
}

// choice returns the number of the item of a Case that is done; -1 if none is.
func (c *scope) choice(x *api.Stmt) int {
	b := c.value(&x.Args[0])
	other := -1
	for i := range x.Items {
		match := x.Items[i].Match
		if len(match) == 0 {
			other = i
		}
		for k := range match {
			if bits.Fits(b, c.value(&match[k]), x.Kind) {
				return i
			}
		}
	}
	return other
}

// set does a Set.
func (c *scope) set(x *api.Stmt) {
	if len(x.Args) > 1 {
		c.run.err = api.ErrState
		return
	}
	b := c.value(&x.Args[0])
	for _, p := range c.places(&x.To, b) {
		c.store(p)
	}
}

// put does a Put.
func (c *scope) put(x *api.Stmt) {
	b := c.value(&x.Args[0])
	after := uint64(0)
	if len(x.Args) > 1 {
		after, _ = bits.Uint(c.value(&x.Args[1]))
	}
	for _, p := range c.places(&x.To, b) {
		p.After = after
		c.run.puts = append(c.run.puts, p)
	}
}

// places returns the assignments that give a target a value.
func (c *scope) places(to *api.Expr, b api.Bits) []Put {
	if to.Op != api.Cat {
		return c.place(to, b)
	}
	var list []Put
	at := b.W
	for i := range to.Kids {
		kid := &to.Kids[i]
		at -= kid.W
		list = append(list, c.places(kid, bits.Slice(b, at, kid.W))...)
	}
	return list
}

// place returns the assignment that gives a target that is no Cat a value; none if there are no bits to assign.
func (c *scope) place(to *api.Expr, b api.Bits) []Put {
	whole, at, known := to, to.At, true
	if to.Op == api.Slice || to.Op == api.Part {
		whole = &to.Kids[0]
	}
	elem, exists := c.which(whole)
	if to.Op == api.Part {
		at, known = c.number(&to.Kids[1], api.MaxWidth)
	}
	if !exists || !known || at >= whole.W || at+b.W <= 0 {
		return nil
	}
	return []Put{{Sig: whole.Sig, Elem: elem, At: at, B: b}}
}
