package machine

import (
	"slices"

	"maskwright/api"
	"maskwright/bits"
	"maskwright/lint"
)

// Recode returns the design with other codes of w bits for the states of the machine of a register, in the order of its States.
func Recode(d api.Design, sig int, codes []uint64, w int) (api.Design, api.Errno) {
	f, e := newFinder(d)
	if e != api.OK {
		return api.Design{}, e
	}
	if !slices.Contains(lint.Registers(d), sig) {
		return api.Design{}, api.ErrNone
	}
	m, ok := f.machine(sig)
	switch {
	case !ok:
		return api.Design{}, api.ErrNone
	case d.Signals[sig].Port != api.Inner:
		return api.Design{}, api.ErrType
	}
	if e := checkCodes(codes, w, len(m.States)); e != api.OK {
		return api.Design{}, e
	}
	c := coder{sig: sig, old: d.Signals[sig], states: m.States, codes: codes, w: w}
	return accepted(c.design(d))
}

// checkCodes checks codes of w bits for n states.
func checkCodes(codes []uint64, w, n int) api.Errno {
	switch {
	case w < 1 || w > api.MaxWidth:
		return api.ErrRange
	case len(codes) != n:
		return api.ErrForm
	}
	before := map[uint64]bool{}
	for _, code := range codes {
		switch {
		case code>>w != 0:
			return api.ErrRange
		case before[code]:
			return api.ErrTwice
		}
		before[code] = true
	}
	return api.OK
}

// accepted returns a design that was made, if it is one and is accepted.
func accepted(d api.Design) (api.Design, api.Errno) {
	report, e := lint.Accept(d)
	if e == api.OK && !report.OK {
		e = api.ErrLarge
	}
	if e != api.OK {
		return api.Design{}, e
	}
	return d, api.OK
}

// coder makes copies of the parts of a design, with codes in place of the states of a register.
type coder struct {
	sig           int
	old           api.Signal
	states, codes []uint64
	w             int
}

// each returns the copies of the elements of a list.
func each[T any](list []T, copied func(T) T) []T {
	var copies []T
	for _, x := range list {
		copies = append(copies, copied(x))
	}
	return copies
}

// design returns a copy of a design.
func (c coder) design(d api.Design) api.Design {
	d.Signals = each(d.Signals, signal)
	d.Signals[c.sig].W = c.w
	d.Signals[c.sig].Init = []api.Bits{bits.Of(c.w, c.codes[0])}
	d.Funcs = each(d.Funcs, func(f api.Func) api.Func {
		f.Vars = each(f.Vars, signal)
		f.Body = c.stmt(f.Body)
		return f
	})
	d.Procs = each(d.Procs, func(p api.Proc) api.Proc {
		p.Edges = slices.Clone(p.Edges)
		p.Body = c.stmt(p.Body)
		return p
	})
	d.Props = each(d.Props, func(p api.Prop) api.Prop {
		p.From, p.To = c.sequence(p.From), c.sequence(p.To)
		return p
	})
	return d
}

// signal returns a copy of a signal.
func signal(s api.Signal) api.Signal {
	s.Init = slices.Clone(s.Init)
	return s
}

// sequence returns a copy of a sequence.
func (c coder) sequence(t api.Temporal) api.Temporal {
	t.E = c.read(t.E)
	t.Kids = each(t.Kids, c.sequence)
	return t
}

// stmt returns a copy of a statement.
func (c coder) stmt(s api.Stmt) api.Stmt {
	s.Args = each(s.Args, c.read)
	if s.Op == api.Put && c.names(s.To) {
		s.To.W, s.To.Kids = c.w, nil
		s.Args[0] = c.code(s.Args[0].N.V)
	} else {
		// In all other targets the register is at most read, by an index.
		s.To = c.read(s.To)
	}
	s.Kids = each(s.Kids, c.stmt)
	s.Items = each(s.Items, func(x api.Item) api.Item {
		return api.Item{Match: each(x.Match, c.read), Do: c.stmt(x.Do)}
	})
	s.Edges = slices.Clone(s.Edges)
	return s
}

// names reports whether an expression is the register.
func (c coder) names(e api.Expr) bool {
	return (e.Op == api.Ref || e.Op == api.Elem) && !e.Local && e.Sig == c.sig
}

// read returns a copy of an expression, with choices in place of the register.
func (c coder) read(e api.Expr) api.Expr {
	if c.names(e) {
		return c.choice(1)
	}
	e.Kids = each(e.Kids, c.read)
	return e
}

// choice returns the state of the register, which is one from number i on, or the first one.
func (c coder) choice(i int) api.Expr {
	if i == len(c.states) {
		return c.state(c.states[0])
	}
	register := api.Expr{Op: api.Ref, W: c.w, Signed: c.old.Signed, Sig: c.sig}
	is := api.Expr{Op: api.Eq, W: 1, Kids: []api.Expr{register, c.code(c.states[i])}}
	return api.Expr{Op: api.Cond, W: c.old.W, Signed: c.old.Signed, Kids: []api.Expr{is, c.state(c.states[i]), c.choice(i + 1)}}
}

// state returns a state as what the register was.
func (c coder) state(n uint64) api.Expr {
	return api.Expr{Op: api.Const, W: c.old.W, Signed: c.old.Signed, N: bits.Of(c.old.W, n)}
}

// code returns the code of a number, which is that of the first state if the number is no state.
func (c coder) code(n uint64) api.Expr {
	i := max(slices.Index(c.states, n), 0)
	return api.Expr{Op: api.Const, W: c.w, N: bits.Of(c.w, c.codes[i])}
}
