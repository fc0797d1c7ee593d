package print

import S "maskwright/syntax"

// part writes an item, a member, or a part of an interface.
func (w *writer) part(n S.Node) {
	switch n.Kind {
	case S.Module:
		w.block("module "+Name(n.Name)+w.parameters(n.Kids[0])+" ("+list(n.Kids[1].Kids, w.port)+")", n.Kids[2].Kids, w.part)
	case S.Interface:
		w.block("interface "+Name(n.Name)+w.parameters(n.Kids[0]), n.Kids[1].Kids, w.part)
	case S.View:
		w.line("view " + Name(n.Name) + " (" + list(n.Kids, w.direction) + ");")
	case S.Const:
		w.line("const " + Name(n.Name) + " = " + w.expr(n.Kids[0]) + ";")
	case S.Enum:
		w.line("enum " + w.span(n.Kids[0]) + " " + Name(n.Name) + " { " + list(n.Kids[1:], w.enumItem) + " }")
	case S.Struct:
		w.block("struct "+Name(n.Name), n.Kids, func(n S.Node) { w.line(w.typed(n) + ";") })
	case S.Function:
		w.block("function "+w.typed(n)+"("+list(n.Kids[1].Kids, w.typed)+")", n.Kids[2].Kids, w.partOrStatement)
	case S.Wire, S.Var:
		w.line(w.words[n.Kind] + w.typeOf(n.Kids[0]) + list(n.Kids[1:], w.declared) + ";")
	default:
		w.member(n)
	}
}

// partOrStatement writes what can stand inside a function.
func (w *writer) partOrStatement(n S.Node) {
	if n.Kind == S.Var {
		w.part(n)
		return
	}
	w.statement(n)
}

// member writes a member that is no item.
func (w *writer) member(n S.Node) {
	switch n.Kind {
	case S.Assign:
		w.line("assign " + w.expr(n.Kids[0]) + " = " + w.expr(n.Kids[1]) + ";")
	case S.Comb, S.Always, S.Initial:
		w.statementAfter(w.words[n.Kind], n.Kids[0])
	case S.Seq:
		w.statementAfter("seq "+w.edges(n.Kids[0])+" ", n.Kids[1])
	case S.Inst:
		w.line("inst " + w.instance(n) + " " + w.connections(n.Kids[2]) + ";")
	case S.Link:
		w.line("link " + w.instance(n) + ";")
	case S.GenFor:
		w.block("for ("+Name(n.Kids[0].Name)+" = "+w.expr(n.Kids[1])+" to "+w.expr(n.Kids[2])+") : "+Name(n.Name), n.Kids[3].Kids, w.part)
	case S.GenIf:
		w.genIf("if", n)
	default:
		w.property(n)
	}
}

// genIf writes a GenIf with a word before its condition, and its other branch.
func (w *writer) genIf(word string, n S.Node) {
	w.block(word+" ("+w.expr(n.Kids[0])+") : "+Name(n.Name), n.Kids[1].Kids, w.part)
	switch other := n.Kids[2]; other.Kind {
	case S.GenIf:
		w.genIf("else if", other)
	case S.GenElse:
		w.block("else : "+Name(other.Name), other.Kids[0].Kids, w.part)
	}
}

// property writes a PropSame or a PropNext.
func (w *writer) property(n S.Node) {
	w.line("property " + Name(n.Name) + " (rise " + w.expr(n.Kids[0]) + ") " + w.sequence(n.Kids[1]) + w.words[n.Kind] + w.sequence(n.Kids[2]) + ";")
}
