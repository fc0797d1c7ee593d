package print

import (
	"strconv"
	"strings"

	"maskwright/bits"
	S "maskwright/syntax"
)

// expr returns the text of an expression.
func (w *writer) expr(n S.Node) string {
	return w.exprIn(n, lowest)
}

// exprIn returns the text of an expression in a place that needs a precedence.
func (w *writer) exprIn(n S.Node, need int) string {
	s, level := w.bareExpr(n)
	if level < need {
		return "(" + s + ")"
	}
	return s
}

// bareExpr returns the text of an expression without brackets around it, and its precedence.
func (w *writer) bareExpr(n S.Node) (string, int) {
	if n.Kind == S.Cond {
		return w.exprIn(n.Kids[0], lowest+1) + " ? " + w.expr(n.Kids[1]) + " : " + w.expr(n.Kids[2]), lowest
	}
	o, ok := w.operators[n.Kind]
	switch {
	case !ok:
		return w.operand(n), atom
	case o.level == prefix:
		return w.prefixed(o.sign, n.Kids[0]), prefix
	}
	return w.exprIn(n.Kids[0], o.level) + " " + o.sign + " " + w.exprIn(n.Kids[1], o.level+1), o.level
}

// prefixed returns the text of an operation of one operand. Two signs that together would be another one are kept apart.
func (w *writer) prefixed(sign string, n S.Node) string {
	s := w.exprIn(n, prefix)
	if (sign == "&" || sign == "|") && strings.HasPrefix(s, sign) {
		return sign + " " + s
	}
	return sign + s
}

// operand returns the text of an expression that is no operation.
func (w *writer) operand(n S.Node) string {
	switch n.Kind {
	case S.Num:
		return number(n)
	case S.Name:
		return Name(n.Name)
	case S.Select:
		return w.exprIn(n.Kids[0], atom) + "." + Name(n.Name)
	case S.Index:
		return w.exprIn(n.Kids[0], atom) + "[" + w.expr(n.Kids[1]) + "]"
	case S.Slice, S.Part:
		return w.exprIn(n.Kids[0], atom) + "[" + w.expr(n.Kids[1]) + w.words[n.Kind] + w.expr(n.Kids[2]) + "]"
	case S.Call:
		return Name(n.Name) + w.arguments(n)
	case S.Now:
		return "now"
	}
	return w.words[n.Kind] + w.arguments(n)
}

// arguments returns the kids of a node as a list in brackets.
func (w *writer) arguments(n S.Node) string {
	return "(" + list(n.Kids, w.expr) + ")"
}

// number returns the text of a number.
func number(n S.Node) string {
	b := n.Num
	if n.Signed && b.W == 32 && b.X == 0 && b.V < 1<<31 {
		return strconv.FormatUint(b.V, 10)
	}
	s := bits.Text(b)
	if n.Signed {
		return strings.Replace(s, "'", "'s", 1)
	}
	return s
}
