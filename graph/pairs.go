package graph

import "maskwright/api"

// pairs makes ands, none of which is trivial or there twice. Its methods take literals of nodes that exist.
type pairs struct {
	first int // the number of the first and
	ands  []api.Node
	found map[api.Node]api.Lit
}

// newPairs returns a list without ands, of which the first one will have this number.
func newPairs(first int) *pairs {
	return &pairs{first: first, found: map[api.Node]api.Lit{}}
}

// nodes returns the number of nodes.
func (p *pairs) nodes() int { return p.first + len(p.ands) }

// and returns the literal of a conjunction.
func (p *pairs) and(a, b api.Lit) api.Lit {
	a, b = min(a, b), max(a, b)
	switch {
	case a == Off || a == Not(b):
		return Off
	case a == On || a == b:
		return b
	}
	x := api.Node{A: a, B: b}
	if l, ok := p.found[x]; ok {
		return l
	}
	l := literal(p.nodes())
	p.ands = append(p.ands, x)
	p.found[x] = l
	return l
}

// or returns the literal of a disjunction.
func (p *pairs) or(a, b api.Lit) api.Lit { return Not(p.and(Not(a), Not(b))) }

// mux returns the literal that is a if s is 1, and b otherwise; if a and b are the same, s is not looked at.
func (p *pairs) mux(s, a, b api.Lit) api.Lit {
	switch {
	case a == b:
		return a
	case a == On:
		return p.or(s, b)
	case b == On:
		return p.or(Not(s), a)
	}
	x := p.and(s, a)
	y := p.and(Not(s), b)
	return p.or(x, y)
}

// table returns a literal of a function, by its cofactors of the last literal. These are the same if it does not depend on this literal, which may then be none.
func (p *pairs) table(t uint64, l []api.Lit) api.Lit {
	if len(l) == 0 {
		return api.Lit(t & 1)
	}
	last := len(l) - 1
	b := p.table(t, l[:last])
	a := p.table(t>>(1<<last), l[:last])
	return p.mux(l[last], a, b)
}

// back takes away all ands but the first n.
func (p *pairs) back(n int) {
	for _, x := range p.ands[n:] {
		delete(p.found, x)
	}
	p.ands = p.ands[:n]
}
