package graph

import "maskwright/api"

// Clean returns a graph without the ands from which no root is computed, and the new number of each node, or -1.
func Clean(g api.Graph) (api.Graph, []int, api.Errno) {
	if e := Check(g); e != api.OK {
		return api.Graph{}, nil, e
	}
	marks := cone(g, Roots(g))
	became := kept(First(g))
	var ands []api.Node
	for i, x := range g.Ands {
		if !marks[First(g)+i] {
			became = append(became, -1)
			continue
		}
		became = append(became, literal(First(g)+len(ands)))
		ands = append(ands, moved(x, became))
	}
	numbers := make([]int, len(became))
	for i, l := range became {
		numbers[i] = Node(l)
	}
	return rewired(g, ands, became), numbers, api.OK
}

// Strash returns a graph in which no and is trivial or there twice, and the literal that each node became.
func Strash(g api.Graph) (api.Graph, []api.Lit, api.Errno) {
	if e := Check(g); e != api.OK {
		return api.Graph{}, nil, e
	}
	p := newPairs(First(g))
	became := kept(First(g))
	for _, x := range g.Ands {
		y := moved(x, became)
		became = append(became, p.and(y.A, y.B))
	}
	return rewired(g, p.ands, became), became, api.OK
}

// kept returns the literals of so many nodes, which stay what they are.
func kept(nodes int) []api.Lit {
	var became []api.Lit
	for i := range nodes {
		became = append(became, literal(i))
	}
	return became
}

// follow returns what a literal became, for the literals that the nodes became.
func follow(became []api.Lit, l api.Lit) api.Lit {
	if Inverted(l) {
		return Not(became[Node(l)])
	}
	return became[Node(l)]
}

// moved returns an and of what its literals became.
func moved(x api.Node, became []api.Lit) api.Node {
	return api.Node{A: follow(became, x.A), B: follow(became, x.B)}
}

// rewired returns a graph with other ands, and with what its roots became.
func rewired(g api.Graph, ands []api.Node, became []api.Lit) api.Graph {
	g = Copy(g)
	g.Ands = ands
	for i, l := range g.Outs {
		g.Outs[i] = follow(became, l)
	}
	for i, r := range g.Regs {
		g.Regs[i].Next = follow(became, r.Next)
	}
	return g
}
