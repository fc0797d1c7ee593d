package design

import (
	"maskwright/api"
	"maskwright/walk"
)

// tooHeavy stands for all weights that are too large: calls of calls could lead to numbers that no int can hold.
const tooHeavy = api.MaxWeight + 1

// size is what is measured of an expression, a statement or a sequence.
type size struct {
	nodes, depth, weight int
}

// with returns the size of something that has one more part.
func (s size) with(part size) size {
	return size{s.nodes + part.nodes, max(s.depth, 1+part.depth), min(s.weight+part.weight, tooHeavy)}
}

// scale measures; it has the weights of the functions whose calls count.
type scale []int

// expr measures an expression.
func (m scale) expr(e api.Expr) size {
	s := size{1, 1, 1}
	for _, kid := range e.Kids {
		s = s.with(m.expr(kid))
	}
	if e.Op == api.Call && e.At >= 0 && e.At < len(m) {
		s.weight = min(s.weight+m[e.At], tooHeavy)
	}
	return s
}

// stmt measures a statement.
func (m scale) stmt(x api.Stmt) size {
	s := size{1, 1, 1}
	if walk.Assigns(x) {
		s = s.with(m.expr(x.To))
	}
	for _, e := range x.Args {
		s = s.with(m.expr(e))
	}
	for _, kid := range x.Kids {
		s = s.with(m.stmt(kid))
	}
	for _, item := range x.Items {
		for _, e := range item.Match {
			s = s.with(m.expr(e))
		}
		s = s.with(m.stmt(item.Do))
	}
	return s
}

// sequence measures a sequence.
func (m scale) sequence(t api.Temporal) size {
	s := size{1, 1, 1}
	if t.Op == api.Holds {
		s = s.with(m.expr(t.E))
	}
	for _, kid := range t.Kids {
		s = s.with(m.sequence(kid))
	}
	return s
}

// Funcs returns the weights of all functions; calls of functions that do not come before count nothing.
func Funcs(d api.Design) []int {
	var m scale
	for _, f := range d.Funcs {
		s := m.stmt(f.Body)
		m = append(m, s.weight)
	}
	return m
}

// Weight returns the weight of a process; 0 if there is none.
func Weight(d api.Design, proc int) int {
	if proc < 0 || proc >= len(d.Procs) {
		return 0
	}
	return scale(Funcs(d)).stmt(d.Procs[proc].Body).weight
}
