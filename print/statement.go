package print

import (
	"maskwright/lex"
	S "maskwright/syntax"
)

// statement writes a statement.
func (w *writer) statement(n S.Node) {
	w.statementAfter("", n)
}

// statementAfter writes a statement behind a head.
func (w *writer) statementAfter(head string, n S.Node) {
	k := n.Kids
	switch n.Kind {
	case S.Block:
		w.braces(head+"{", k, w.statement)
	case S.If:
		w.statementAfter(head+"if ("+w.expr(k[0])+") ", k[1])
		if k[2].Kind != S.None {
			w.statementAfter("else ", k[2])
		}
	case S.While, S.Repeat:
		w.statementAfter(head+w.words[n.Kind]+w.expr(k[0])+") ", k[1])
	case S.ForUp, S.ForDown:
		w.statementAfter(head+"for ("+Name(n.Name)+" = "+w.expr(k[0])+w.words[n.Kind]+w.expr(k[1])+") ", k[2])
	case S.Case, S.CaseZ, S.CaseX:
		w.block(head+w.words[n.Kind]+w.expr(k[0])+")", k[1:], w.caseItem)
	default:
		w.line(head + w.simple(n) + ";")
	}
}

// caseItem writes an item of a choice.
func (w *writer) caseItem(n S.Node) {
	last := len(n.Kids) - 1
	head := "default"
	if last > 0 {
		head = list(n.Kids[:last], w.expr)
	}
	w.statementAfter(head+": ", n.Kids[last])
}

// simple returns the text of a statement that contains no others.
func (w *writer) simple(n S.Node) string {
	switch n.Kind {
	case S.Set, S.Put:
		return w.expr(n.Kids[0]) + w.words[n.Kind] + w.after(n.Kids[2]) + w.expr(n.Kids[1])
	case S.Delay:
		return "delay " + w.expr(n.Kids[0])
	case S.On:
		return "on " + w.edges(n.Kids[0])
	case S.Wait:
		return "wait (" + w.expr(n.Kids[0]) + ")"
	case S.Stop:
		return "stop"
	case S.Assert:
		return "check(" + w.expr(n.Kids[0]) + remark(n.Text) + ")"
	case S.Show, S.Write, S.Strobe, S.Monitor:
		return w.words[n.Kind] + w.shown(n) + ")"
	}
	return "" // a Nop
}

// after returns the text of the delay of an assignment; nothing if there is none.
func (w *writer) after(n S.Node) string {
	if n.Kind == S.None {
		return ""
	}
	return "after (" + w.expr(n) + ") "
}

// remark returns the text of the string of an assertion; nothing if it is empty.
func remark(text string) string {
	if text == "" {
		return ""
	}
	return ", " + lex.Quote(text)
}

// shown returns the list of what a statement shows: its string, and the values.
func (w *writer) shown(n S.Node) string {
	s := lex.Quote(n.Text)
	for _, k := range n.Kids {
		s += ", " + w.expr(k)
	}
	return s
}
