package graph

import (
	"slices"

	"maskwright/api"
)

// Join returns both graphs side by side; inputs with one name are one.
func Join(a, b api.Graph) (api.Graph, api.Errno) {
	if e := Check(a); e != api.OK {
		return api.Graph{}, e
	}
	if e := Check(b); e != api.OK {
		return api.Graph{}, e
	}
	return checked(joined(a, b))
}

// Prefix returns a graph in which the names of registers and outputs begin with a string.
func Prefix(g api.Graph, s string) (api.Graph, api.Errno) {
	if e := Check(g); e != api.OK {
		return api.Graph{}, e
	}
	if len(s) > api.MaxBit {
		return api.Graph{}, api.ErrName
	}
	g = Copy(g)
	for i := range g.Regs {
		g.Regs[i].Name = s + g.Regs[i].Name
	}
	for i := range g.Out {
		g.Out[i] = s + g.Out[i]
	}
	return checked(g)
}

// checked returns a graph if it is valid, and otherwise the error of Check.
func checked(g api.Graph) (api.Graph, api.Errno) {
	if e := Check(g); e != api.OK {
		return api.Graph{}, e
	}
	return g, api.OK
}

// joined returns two valid graphs side by side, which can be too large, or have names twice.
func joined(a, b api.Graph) api.Graph {
	in := slices.Clone(a.In)
	for _, s := range b.In {
		if !slices.Contains(a.In, s) {
			in = append(in, s)
		}
	}
	regs := 1 + len(in)
	ands := regs + len(a.Regs) + len(b.Regs)
	x := placed(a, in, regs, ands)
	y := placed(b, in, regs+len(a.Regs), ands+len(a.Ands))
	return api.Graph{
		In:   in,
		Out:  slices.Concat(x.Out, y.Out),
		Regs: slices.Concat(x.Regs, y.Regs),
		Ands: slices.Concat(x.Ands, y.Ands),
		Outs: slices.Concat(x.Outs, y.Outs),
	}
}

// placed returns a valid graph with literals for other places: those of its inputs are those of their names in a list, and its registers and its ands have numbers from these on.
func placed(g api.Graph, in []string, regs, ands int) api.Graph {
	became := []api.Lit{Off}
	for _, s := range g.In {
		became = append(became, literal(1+slices.Index(in, s)))
	}
	for i := range g.Regs {
		became = append(became, literal(regs+i))
	}
	for i := range g.Ands {
		became = append(became, literal(ands+i))
	}
	var list []api.Node
	for _, x := range g.Ands {
		list = append(list, moved(x, became))
	}
	return rewired(g, list, became)
}
