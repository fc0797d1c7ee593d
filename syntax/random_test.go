package syntax_test

import (
	"math/rand"
	"slices"
	"strings"

	"maskwright/api"
	"maskwright/bits"
	"maskwright/syntax"
)

// small has kinds of which the trees can be small, for classes that others contain again.
var small = map[byte]int{
	'E': syntax.Num, 't': syntax.Name, 'S': syntax.Nop, 'X': syntax.SeqHold, 'M': syntax.Assign, 'u': syntax.Star, 'w': syntax.GenElse,
}

// grow returns a random tree of a class that is valid, but for an If that dangles; below the given depth it is small.
func grow(r *rand.Rand, class byte, depth int) syntax.Node {
	kinds := within(class)
	kind, recurs := small[class]
	if !recurs || depth > 0 {
		kind = kinds[r.Intn(len(kinds))]
	}
	return fill(r, kind, class, depth)
}

// fill returns a random tree of a kind in a place of a class.
func fill(r *rand.Rand, kind int, class byte, depth int) syntax.Node {
	n := syntax.Node{Kind: kind, Line: r.Intn(3), Col: r.Intn(3)}
	switch rows[kind].fields {
	case "N":
		n.Name = []string{"a", "q_2", "if", "a$b", "~!"}[r.Intn(5)]
	case "S":
		n.Signed = r.Intn(2) > 0
	case "V":
		n.Num, n.Signed = bits.Of(1+r.Intn(64), 1), r.Intn(2) > 0
	case "X":
		n.Text = []string{"", "x y", "~"}[r.Intn(3)]
	}
	for _, l := range letter.FindAllString(rows[kind].pattern, -1) {
		times := howOften(r, l[1:], depth > 0)
		for range times {
			n.Kids = append(n.Kids, growKid(r, n, class, l[0], depth-1))
		}
		if times == 0 && l[1:] == "?" {
			n.Kids = append(n.Kids, syntax.Node{})
		}
	}
	return n
}

// howOften returns a random number of kids for a letter with a mark, and the least one if there are to be few.
func howOften(r *rand.Rand, mark string, many bool) int {
	least, most := 1, 1
	switch mark {
	case "*":
		least, most = 0, 3
	case "+":
		most = 3
	case "?":
		least = 0
	}
	if !many {
		return least
	}
	return least + r.Intn(most-least+1)
}

// growKid returns a random kid for a place of a class.
func growKid(r *rand.Rand, parent syntax.Node, class, own byte, depth int) syntax.Node {
	if parent.Kind == syntax.Cat && class == 't' {
		return grow(r, 't', depth)
	}
	if len(parent.Kids) > 0 || !slices.Contains(selecting, parent.Kind) {
		return grow(r, own, depth)
	}
	kid := grow(r, 't', depth)
	if kid.Kind == syntax.Cat {
		return grow(r, 't', 0)
	}
	return kid
}

// nodes returns pointers to all nodes of a tree.
func nodes(n *syntax.Node) []*syntax.Node {
	list := []*syntax.Node{n}
	for i := range n.Kids {
		list = append(list, nodes(&n.Kids[i])...)
	}
	return list
}

// copyOf returns a tree with memory of its own.
func copyOf(n syntax.Node) syntax.Node {
	n.Kids = slices.Clone(n.Kids)
	for i := range n.Kids {
		n.Kids[i] = copyOf(n.Kids[i])
	}
	return n
}

// spoil changes something in a random node of a tree.
func spoil(r *rand.Rand, tree *syntax.Node) {
	all := nodes(tree)
	n := all[r.Intn(len(all))]
	other := copyOf(*all[r.Intn(len(all))])
	switch r.Intn(18) {
	case 0:
		n.Kind = r.Intn(len(rows)+4) - 2
	case 1:
		n.Line = -1
	case 2:
		n.Col = -1
	case 3:
		n.Name = ""
	case 4:
		n.Name = []string{"b", "a b", "a.b", strings.Repeat("a", 41)}[r.Intn(4)]
	case 5:
		n.Num.W++
	case 6:
		n.Num = api.Bits{W: 2, V: 7}
	case 7:
		n.Signed = !n.Signed
	case 8, 9:
		for _, m := range all {
			if strings.Contains(of(m.Kind).fields, "X") {
				n = m
			}
		}
		n.Text = []string{"x", "\x1f", "\x7f", strings.Repeat("y", 200), strings.Repeat("\n", 201)}[r.Intn(5)]
	case 10:
		n.Kids = append(n.Kids, other)
	case 11:
		n.Kids = append(n.Kids, syntax.Node{})
	case 12:
		n.Kids = n.Kids[:len(n.Kids)/2]
	case 13, 14:
		*n = other
	case 15:
		*n = grow(r, "FIMEStX"[r.Intn(7)], 2)
	case 16:
		around := []int{syntax.Block, syntax.Not}[r.Intn(2)]
		for range r.Intn(syntax.MaxDepth + 10) {
			*n = with(around, *n)
		}
	default:
		*n = syntax.Node{}
	}
}

// hosts returns, for each class of a place in a file, a kind that has such a place, and the class by which it is reached.
func hosts() map[byte]place {
	found := map[byte]place{}
	for todo := []byte{'F'}; len(todo) > 0; todo = todo[1:] {
		for _, kind := range within(todo[0]) {
			for _, l := range letter.FindAllString(rows[kind].pattern, -1) {
				if _, ok := found[l[0]]; !ok {
					found[l[0]] = place{n: syntax.Node{Kind: kind}, class: string(todo[0])}
					todo = append(todo, l[0])
				}
			}
		}
	}
	return found
}

// hold returns a valid file around a node in a place of a class.
func hold(r *rand.Rand, class byte, n syntax.Node) syntax.Node {
	found := hosts()
	for class != 'F' {
		host := found[class]
		parent := fill(r, host.n.Kind, host.class[0], 0)
		parent.Kids = nil
		for _, l := range letter.FindAllString(rows[host.n.Kind].pattern, -1) {
			switch {
			case l[0] == class:
				parent.Kids = append(parent.Kids, n)
				class = 0 // only the first of these places
			case l[1:] == "?":
				parent.Kids = append(parent.Kids, syntax.Node{})
			case l[1:] != "*":
				parent.Kids = append(parent.Kids, grow(r, l[0], 0))
			}
		}
		n, class = parent, host.class[0]
	}
	return n
}
