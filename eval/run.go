package eval

import (
	"maskwright/api"
	"maskwright/bits"
)

// run is what one call of a method has done so far.
type run struct {
	design *api.Design
	now    uint64
	turns  int
	puts   []Put
	err    api.Errno // the first error; nothing that is done after it counts
	calls  []scope   // those of the functions: none of them is called before its last call has ended
}

// turn begins a turn of a loop; it reports false if there cannot be one.
func (r *run) turn() bool {
	if r.err == api.OK && r.turns == api.MaxTurns {
		r.err = api.ErrLarge
	}
	r.turns++
	return r.err == api.OK
}

// call returns the value of a function.
func (r *run) call(function int, args []api.Bits) api.Bits {
	if r.calls == nil {
		r.calls = make([]scope, len(r.design.Funcs))
	}
	f, c := &r.design.Funcs[function], &r.calls[function]
	if c.run == nil {
		*c = scope{r, f.Vars, make([][]api.Bits, len(f.Vars))}
	}
	clear(c.values)
	for i, b := range args {
		c.store(Put{Sig: i, B: b})
	}
	c.do(&f.Body)
	return c.element(f.Args, 0)
}

// scope is where expressions and statements stand: the signals of a design, or the variables of a function, and their values.
type scope struct {
	run     *run
	signals []api.Signal
	values  [][]api.Bits // of a variable of a function to which nothing has been assigned there is no list yet: calls must not take time for it
}

// element returns the value of an element.
func (c *scope) element(sig, elem int) api.Bits {
	if len(c.values[sig]) == 0 {
		return bits.All(c.signals[sig].W, 'x')
	}
	return c.values[sig][elem]
}

// store makes an assignment at once.
func (c *scope) store(p Put) {
	if len(c.values[p.Sig]) == 0 {
		c.values[p.Sig] = unknown(c.signals[p.Sig])
	}
	list := c.values[p.Sig]
	list[p.Elem] = bits.Put(list[p.Elem], p.At, p.B)
}

// outcome does a statement in a copy of a state.
func (c *scope) outcome(s State, x *api.Stmt) outcome {
	after := Clone(s)
	c.values = after.Sigs
	c.do(x)
	return outcome{after, c.run.puts}
}
