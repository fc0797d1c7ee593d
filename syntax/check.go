package syntax

import (
	"strings"

	"maskwright/api"
	"maskwright/bits"
	"maskwright/lex"
)

// Check validates the tree of a file.
func Check(f File) api.Errno {
	return checkTree(Node{Kind: Whole, Kids: f.Items}, classFile)
}

// CheckExpr validates the tree of an expression.
func CheckExpr(n Node) api.Errno {
	return checkTree(n, classExpr)
}

// checkTree validates a tree, of which the root is of a class.
func checkTree(n Node, class byte) api.Errno {
	if count, depth := Measure(n); count > MaxNodes || depth > MaxDepth {
		return api.ErrLarge
	}
	return checkNode(n, class)
}

// checkNode validates a node in a place of a class, and then its kids.
func checkNode(n Node, class byte) api.Errno {
	row := formOf(n.Kind)
	switch {
	case n.Kind < None || n.Kind > Now:
		return api.ErrRange
	case n.Kind != None && (n.Line < 0 || n.Col < 0):
		return api.ErrRange
	case !belongs(n.Kind, class):
		return api.ErrType
	}
	if e := checkFields(n, row.fields); e != api.OK {
		return e
	}
	classes, ok := match(row.pattern, n.Kids)
	if !ok || isAmbiguous(n) {
		return api.ErrForm
	}
	narrow(n, class, classes)
	for i, kid := range n.Kids {
		if i == 0 && selects(n) && kid.Kind == Cat {
			return api.ErrType
		}
		if e := checkKid(kid, classes[i]); e != api.OK {
			return e
		}
	}
	return api.OK
}

// checkKid validates a kid in a place of a class; the pattern of its parent has permitted that it is missing if it is.
func checkKid(n Node, class byte) api.Errno {
	switch {
	case n.Kind != None:
		return checkNode(n, class)
	case !Same(n, Node{}):
		return api.ErrForm
	}
	return api.OK
}

// narrow changes the classes of the places of kids that must be targets, though their pattern permits any expression.
func narrow(n Node, class byte, classes []byte) {
	switch {
	case selects(n):
		classes[0] = classTarget
	case n.Kind == Cat && class == classTarget:
		for i := range classes {
			classes[i] = classTarget
		}
	}
}

// selects reports whether a node selects a part of its first kid.
func selects(n Node) bool {
	return n.Kind == Select || n.Kind == Index || n.Kind == Slice || n.Kind == Part
}

// checkFields validates the fields of a node, of which the kind has those of the letters.
func checkFields(n Node, letters string) api.Errno {
	has := func(letter byte) bool { return strings.IndexByte(letters, letter) >= 0 }
	switch {
	case has('N') != (n.Name != ""):
		return api.ErrForm
	case has('N') && !lex.Quoted(n.Name):
		return api.ErrName
	case has('V') && bits.Check(n.Num) != api.OK:
		return api.ErrForm
	case !has('V') && n.Num != api.Bits{}:
		return api.ErrForm
	case n.Signed && !has('V') && !has('S'):
		return api.ErrForm
	case n.Text != "" && !has('X'):
		return api.ErrForm
	case len(n.Text) > lex.MaxString:
		return api.ErrLarge
	case !isPrintable(n.Text):
		return api.ErrForm
	}
	return api.OK
}

// isPrintable reports whether a text has only bytes from the blank to the tilde.
func isPrintable(s string) bool {
	for _, c := range []byte(s) {
		if c < ' ' || c > '~' {
			return false
		}
	}
	return true
}

// isAmbiguous reports whether a node is an If whose second branch would be read as that of a statement in the first one.
func isAmbiguous(n Node) bool {
	return n.Kind == If && n.Kids[2].Kind != None && dangles(n.Kids[1])
}

// dangles reports whether an else behind a statement would belong to it.
func dangles(n Node) bool {
	last := len(n.Kids) - 1
	switch n.Kind {
	case If:
		return last == 2 && (n.Kids[last].Kind == None || dangles(n.Kids[last]))
	case While, Repeat:
		return last == 1 && dangles(n.Kids[last])
	case ForUp, ForDown:
		return last == 2 && dangles(n.Kids[last])
	}
	return false
}
