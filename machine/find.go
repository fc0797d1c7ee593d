package machine

import (
	"slices"

	"maskwright/api"
	"maskwright/design"
	"maskwright/eval"
	"maskwright/lint"
	"maskwright/walk"
)

// finder finds the machines of an accepted design.
type finder struct {
	api.Design
	clock int
	runs  eval.Machine
}

// newFinder returns the finder of a design, if this is accepted.
func newFinder(d api.Design) (finder, api.Errno) {
	report, e := lint.Accept(d)
	if e == api.OK && !report.OK {
		e = api.ErrState
	}
	if e != api.OK {
		return finder{}, e
	}
	runs, e := eval.New(d)
	return finder{d, report.Clock, runs}, e
}

// machine returns what is found of a register; false if it is no machine.
func (f finder) machine(sig int) (Machine, bool) {
	proc := slices.IndexFunc(f.Procs, func(p api.Proc) bool { return len(putsTo(p.Body, sig)) > 0 })
	s := f.Signals[sig]
	if s.Elems > 1 || s.W > MaxBits || slices.ContainsFunc(putsTo(f.Procs[proc].Body, sig), isOther) {
		return Machine{}, false
	}
	free := f.free(sig, proc)
	if len(free) > MaxFree {
		return Machine{}, false
	}
	m := Machine{Sig: sig, Proc: proc, Free: free}
	m.explore(s.Init[0].V, f.follow(m))
	return m, true
}

// targets visits the statements of an operation in a body, each one with every signal that its target names.
func targets(body api.Stmt, op int, visit func(s api.Stmt, sig int)) {
	walk.Stmts(body, func(s api.Stmt) {
		if s.Op != op {
			return
		}
		walk.Targets(s, func(e api.Expr) {
			whole, _ := walk.Whole(e)
			visit(s, whole.Sig)
		})
	})
}

// putsTo returns the Puts of a body that name a signal in their target.
func putsTo(body api.Stmt, sig int) []api.Stmt {
	var list []api.Stmt
	targets(body, api.Put, func(s api.Stmt, named int) {
		if named == sig {
			list = append(list, s)
		}
	})
	return list
}

// isOther reports whether a Put does anything else than to give a constant to a whole signal.
func isOther(s api.Stmt) bool {
	return s.To.Op != api.Ref || s.Args[0].Op != api.Const
}

// free returns the free bits of a register that a process drives.
func (f finder) free(sig, proc int) []Bit {
	bound := map[int]bool{sig: true, f.clock: true}
	targets(f.Procs[proc].Body, api.Set, func(_ api.Stmt, temporary int) { bound[temporary] = true })
	var list []Bit
	for _, p := range design.Reads(f.Design, proc) {
		if bound[p.Sig] {
			continue
		}
		for at := range api.MaxWidth {
			if p.Bits>>at&1 == 1 {
				list = append(list, Bit{p.Sig, p.Elem, at})
			}
		}
	}
	return list
}
