package graph

import (
	"slices"

	"maskwright/api"
)

// Name reports whether a string is the name of a bit.
func Name(s string) bool {
	if len(s) < 1 || len(s) > api.MaxBit {
		return false
	}
	for _, c := range []byte(s) {
		if c < '!' || c > '~' {
			return false
		}
	}
	return true
}

// Names returns ErrName for the first string that is no name, or ErrTwice if it is there before.
func Names(l []string) api.Errno {
	seen := map[string]bool{}
	for _, s := range l {
		if !Name(s) {
			return api.ErrName
		}
		if seen[s] {
			return api.ErrTwice
		}
		seen[s] = true
	}
	return api.OK
}

// Check validates a graph.
func Check(g api.Graph) api.Errno {
	if len(g.In) > api.MaxIns || len(g.Out) > api.MaxOuts || len(g.Regs) > api.MaxRegs || len(g.Ands) > api.MaxAnds {
		return api.ErrLarge
	}
	if len(g.Outs) != len(g.Out) {
		return api.ErrForm
	}
	inner := slices.Clone(g.In)
	for _, r := range g.Regs {
		inner = append(inner, r.Name)
	}
	if e := Names(inner); e != api.OK {
		return e
	}
	if e := Names(g.Out); e != api.OK {
		return e
	}
	for i, x := range g.Ands {
		if !has(First(g)+i, x.A) || !has(First(g)+i, x.B) {
			return api.ErrRange
		}
	}
	return checkRoots(g, Roots(g))
}

// checkRoots returns ErrRange if a literal is not that of a node.
func checkRoots(g api.Graph, roots []api.Lit) api.Errno {
	for _, l := range roots {
		if !has(Nodes(g), l) {
			return api.ErrRange
		}
	}
	return api.OK
}
