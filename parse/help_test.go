package parse_test

import (
	"strconv"
	"strings"

	"maskwright/bits"
	"maskwright/syntax"
)

// show writes trees: `-` for None (with nothing else in it), otherwise in brackets the kind, the place (a column of the first line alone), `+` for Signed, the name, the text in quotation marks, the number, and the kids.
func show(list ...syntax.Node) string {
	var texts []string
	for _, n := range list {
		texts = append(texts, showOne(n))
	}
	return strings.Join(texts, " ")
}

// showOne writes a tree.
func showOne(n syntax.Node) string {
	place := strconv.Itoa(n.Col)
	if n.Line != 1 {
		place = strconv.Itoa(n.Line) + "." + place
	}
	s := strconv.Itoa(n.Kind)
	if n.Kind >= 0 && n.Kind < len(kindList) {
		s = kindList[n.Kind]
	}
	s += ":" + place
	if n.Signed {
		s += "+"
	}
	if n.Name != "" {
		s += " " + n.Name
	}
	if n.Text != "" {
		s += " " + strconv.Quote(n.Text)
	}
	if n.Num.W == 32 && n.Num.X == 0 {
		s += " " + strconv.FormatUint(n.Num.V, 10)
	} else if n.Num.W > 0 {
		s += " " + bits.Text(n.Num)
	}
	if len(n.Kids) > 0 {
		s += " " + show(n.Kids...)
	}
	if s == "None:0.0" {
		return "-"
	}
	return "(" + s + ")"
}

// kindList are the names of the kinds, each at its number.
var kindList = strings.Fields(kindNames)
