package graph

import "maskwright/api"

// Levels returns for each node how many ands lie one after the other on the longest way to it, itself included.
func Levels(g api.Graph) ([]int, api.Errno) {
	if e := Check(g); e != api.OK {
		return nil, e
	}
	levels := make([]int, First(g), Nodes(g))
	for _, x := range g.Ands {
		levels = append(levels, 1+max(levels[Node(x.A)], levels[Node(x.B)]))
	}
	return levels, api.OK
}

// Depth returns the greatest level of a root.
func Depth(g api.Graph) (int, api.Errno) {
	levels, e := Levels(g)
	if e != api.OK {
		return 0, e
	}
	depth := 0
	for _, l := range Roots(g) {
		depth = max(depth, levels[Node(l)])
	}
	return depth, api.OK
}

// Cone returns the nodes from which literals are computed, in order.
func Cone(g api.Graph, roots []api.Lit) ([]int, api.Errno) {
	return coneBetween(g, roots, 0, Nodes(g))
}

// Support returns the inputs and registers from which literals are computed, as nodes in order.
func Support(g api.Graph, roots []api.Lit) ([]int, api.Errno) {
	return coneBetween(g, roots, 1, First(g))
}

// coneBetween returns the nodes of a cone from one number on, up to another.
func coneBetween(g api.Graph, roots []api.Lit, from, to int) ([]int, api.Errno) {
	if e := Check(g); e != api.OK {
		return nil, e
	}
	if e := checkRoots(g, roots); e != api.OK {
		return nil, e
	}
	marks := cone(g, roots)
	var nodes []int
	for i := from; i < to; i++ {
		if marks[i] {
			nodes = append(nodes, i)
		}
	}
	return nodes, api.OK
}

// cone says for each node of a valid graph whether literals are computed from it.
func cone(g api.Graph, roots []api.Lit) []bool {
	marks := make([]bool, Nodes(g))
	for _, l := range roots {
		marks[Node(l)] = true
	}
	for i := Nodes(g) - 1; i >= First(g); i-- {
		if marks[i] {
			x := g.Ands[i-First(g)]
			marks[Node(x.A)], marks[Node(x.B)] = true, true
		}
	}
	return marks
}
