package print_test

import (
	"math/rand"
	"regexp"
	"slices"
	"strings"

	"maskwright/api"
	"maskwright/syntax"
)

// letter is a letter of a pattern with its mark.
var letter = regexp.MustCompile(`[A-Za-z][*+?]?`)

// small has kinds of which the trees can be small, for classes that others contain again.
var small = map[byte]int{
	'E': syntax.Num, 't': syntax.Name, 'S': syntax.Nop, 'X': syntax.SeqHold, 'M': syntax.Assign, 'u': syntax.Star, 'w': syntax.GenElse,
}

// within are the kinds of a class.
func within(class byte) []int {
	var list []int
	for _, r := range rows {
		if strings.IndexByte(r.classes, class) >= 0 {
			list = append(list, r.kind)
		}
	}
	return list
}

// grow returns a random tree of a class that is valid, but for an If that dangles; below the given depth it is small.
func grow(r *rand.Rand, class byte, depth int) syntax.Node {
	kinds := within(class)
	kind, recurs := small[class]
	if !recurs || depth > 0 {
		kind = kinds[r.Intn(len(kinds))]
	}
	return fill(r, kind, class, depth)
}

// names are names that need a quotation, and others.
var names = []string{"a", "b", "q_2", "Z", "if", "now", "a$b", "~!", "//", "/*", "{", "}", "(", ";", "=", "'", "1", "#x", strings.Repeat("n", 40)}

// texts are contents of strings.
var texts = []string{"", "x y", "~", `\`, `"`, `a\"b\\`, "`m", "//", "/*", "{", "};"}

// fill returns a random tree of a kind in a place of a class.
func fill(r *rand.Rand, kind int, class byte, depth int) syntax.Node {
	n := syntax.Node{Kind: kind, Line: r.Intn(3), Col: r.Intn(3)}
	switch rows[kind].fields {
	case "N":
		n.Name = names[r.Intn(len(names))]
	case "S":
		n.Signed = r.Intn(2) > 0
	case "V":
		n.Num, n.Signed = number(r), r.Intn(3) > 0
	case "X":
		n.Text = texts[r.Intn(len(texts))]
	}
	for _, l := range letter.FindAllString(rows[kind].pattern, -1) {
		times := howOften(r, l[1:], depth > 0)
		for range times {
			n.Kids = append(n.Kids, growKid(r, n, class, l[0], depth-1))
		}
		if times == 0 && l[1:] == "?" {
			n.Kids = append(n.Kids, syntax.Node{})
		}
	}
	return n
}

// number returns a random vector: mostly one that can be a decimal number, or nearly so.
func number(r *rand.Rand) api.Bits {
	b := api.Bits{W: 32, V: uint64(r.Intn(100))}
	switch r.Intn(6) {
	case 0:
		b.W = 1 + r.Intn(64)
		b.V, b.X = r.Uint64(), r.Uint64()
	case 1:
		b.W = 1 + r.Intn(64)
		b.V = r.Uint64()
	case 2:
		b.V = 1<<31 - uint64(r.Intn(2))
	case 3:
		b.X = uint64(r.Intn(2)) << r.Intn(32)
	}
	mask := uint64(1)<<b.W - 1
	b.V, b.X = b.V&mask, b.X&mask
	return b
}

// howOften returns a random number of kids for a letter with a mark, and the least one if there are to be few.
func howOften(r *rand.Rand, mark string, many bool) int {
	least, most := 1, 1
	switch mark {
	case "*":
		least, most = 0, 3
	case "+":
		most = 3
	case "?":
		least = 0
	}
	if !many {
		return least
	}
	return least + r.Intn(most-least+1)
}

// growKid returns a random kid for a place of a class.
func growKid(r *rand.Rand, parent syntax.Node, class, own byte, depth int) syntax.Node {
	if parent.Kind == syntax.Cat && class == 't' {
		return grow(r, 't', depth)
	}
	selecting := []int{syntax.Select, syntax.Index, syntax.Slice, syntax.Part}
	if len(parent.Kids) > 0 || !slices.Contains(selecting, parent.Kind) {
		return grow(r, own, depth)
	}
	kid := grow(r, 't', depth)
	if kid.Kind == syntax.Cat {
		return grow(r, 't', 0)
	}
	return kid
}

// nodes returns pointers to all nodes of a tree.
func nodes(n *syntax.Node) []*syntax.Node {
	list := []*syntax.Node{n}
	for i := range n.Kids {
		list = append(list, nodes(&n.Kids[i])...)
	}
	return list
}

// copyOf returns a tree with memory of its own, in which other nodes stand behind the kids.
func copyOf(n syntax.Node) syntax.Node {
	kids := make([]syntax.Node, len(n.Kids), len(n.Kids)+2)
	for i, k := range n.Kids {
		kids[i] = copyOf(k)
	}
	for i := len(kids); i < cap(kids); i++ {
		kids[:cap(kids)][i] = syntax.Node{Kind: syntax.Stop}
	}
	n.Kids = kids
	return n
}

// spoil changes something in a random node of a tree.
func spoil(r *rand.Rand, tree *syntax.Node) {
	all := nodes(tree)
	n := all[r.Intn(len(all))]
	other := copyOf(*all[r.Intn(len(all))])
	switch r.Intn(12) {
	case 0:
		n.Kind = r.Intn(len(rows)+4) - 2
	case 1:
		n.Line, n.Col = r.Intn(5)-1, r.Intn(5)-1
	case 2:
		n.Name = []string{"", "b", "a b", "a.b", strings.Repeat("a", 41)}[r.Intn(5)]
	case 3:
		n.Num = number(r)
	case 4:
		n.Num = api.Bits{W: 2, V: 7}
	case 5:
		n.Signed = !n.Signed
	case 6:
		n.Text = []string{"", "x", "\x1f", strings.Repeat("y", 201)}[r.Intn(4)]
	case 7:
		n.Kids = append(n.Kids, other)
	case 8:
		n.Kids = append(n.Kids, syntax.Node{})
	case 9:
		n.Kids = n.Kids[:len(n.Kids)/2]
	case 10:
		*n = other
	default:
		*n = grow(r, "FIMEStX"[r.Intn(7)], 2)
	}
}
