package graph

import "maskwright/api"

// Make returns the literal of a node.
func Make(node int, inverted bool) api.Lit {
	if node < 0 || node > MaxNode {
		return Off
	}
	if inverted {
		return Not(literal(node))
	}
	return literal(node)
}

// Node returns the node of a literal, or -1 for a negative number.
func Node(l api.Lit) int {
	if l < 0 {
		return -1
	}
	return int(l >> 1)
}

// Inverted reports whether a literal is inverted.
func Inverted(l api.Lit) bool { return l >= 0 && l&1 == 1 }

// Not returns the opposite literal; a negative number stays as it is.
func Not(l api.Lit) api.Lit {
	if l < 0 {
		return l
	}
	return l ^ 1
}

// literal returns the literal of a node that may be greater than MaxNode, since a maker can have more inputs than a graph.
func literal(node int) api.Lit { return api.Lit(2 * node) }

// has reports whether a literal is that of one of so many nodes.
func has(nodes int, l api.Lit) bool { return l >= 0 && Node(l) < nodes }
