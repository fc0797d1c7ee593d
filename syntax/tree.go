package syntax

import "slices"

// Same reports whether two trees are equal, except for lines and columns.
func Same(a, b Node) bool {
	return a.Kind == b.Kind && a.Name == b.Name && a.Text == b.Text && a.Num == b.Num && a.Signed == b.Signed &&
		slices.EqualFunc(a.Kids, b.Kids, Same)
}

// SameFile reports whether two files have equal trees.
func SameFile(a, b File) bool {
	return slices.EqualFunc(a.Items, b.Items, Same)
}

// Walk calls f for a node and all below, each before its kids, in order, as long as f returns true; below a node for which it returns false nothing is visited.
func Walk(n Node, f func(Node) bool) {
	if f == nil || !f(n) {
		return
	}
	for _, kid := range n.Kids {
		Walk(kid, f)
	}
}

// Measure returns the number of nodes of a tree, and its depth.
func Measure(n Node) (int, int) {
	count, below := 1, 0
	for _, kid := range n.Kids {
		nodes, depth := Measure(kid)
		count += nodes
		below = max(below, depth)
	}
	return count, below + 1
}
