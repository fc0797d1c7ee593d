package print

import S "maskwright/syntax"

// span returns the text of a range; nothing if there is none.
func (w *writer) span(n S.Node) string {
	if n.Kind == S.None {
		return ""
	}
	return "[" + w.expr(n.Kids[0]) + ":" + w.expr(n.Kids[1]) + "]"
}

// start returns the text of an init; nothing if there is none.
func (w *writer) start(n S.Node) string {
	if n.Kind == S.None {
		return ""
	}
	return " = " + w.expr(n)
}

// typeOf returns the text of a type, with a blank behind it if there is any.
func (w *writer) typeOf(n S.Node) string {
	if n.Kind == S.TypeName {
		return Name(n.Name) + " "
	}
	s := w.span(n.Kids[0])
	if s != "" {
		s += " "
	}
	if n.Signed {
		return "signed " + s
	}
	return s
}

// typed returns the type of a node, its first kid, and its name.
func (w *writer) typed(n S.Node) string {
	return w.typeOf(n.Kids[0]) + Name(n.Name)
}

// port returns the text of a port.
func (w *writer) port(n S.Node) string {
	switch n.Kind {
	case S.PortView:
		return Name(n.Kids[0].Name) + "." + Name(n.Kids[1].Name) + " " + Name(n.Name)
	case S.PortVar:
		return w.words[n.Kind] + w.typed(n) + w.start(n.Kids[1])
	}
	return w.words[n.Kind] + w.typed(n)
}

// direction returns the text of a direction of a view.
func (w *writer) direction(n S.Node) string {
	return w.words[n.Kind] + Name(n.Name)
}

// enumItem returns the text of an item of an enumeration.
func (w *writer) enumItem(n S.Node) string {
	return Name(n.Name) + w.start(n.Kids[0])
}

// declared returns the text of what is declared, without its type.
func (w *writer) declared(n S.Node) string {
	return Name(n.Name) + w.span(n.Kids[0]) + w.start(n.Kids[1])
}

// instance returns the beginning that an Inst and a Link have in common.
func (w *writer) instance(n S.Node) string {
	return Name(n.Name) + ": " + Name(n.Kids[0].Name) + w.parameters(n.Kids[1])
}

// parameters returns the text of parameters; nothing if there are none.
func (w *writer) parameters(n S.Node) string {
	if len(n.Kids) == 0 {
		return ""
	}
	return " #" + w.connections(n)
}

// connections returns the text of connections.
func (w *writer) connections(n S.Node) string {
	return "(" + list(n.Kids, func(n S.Node) string { return Name(n.Name) + " = " + w.expr(n.Kids[0]) }) + ")"
}

// edges returns the text of edges.
func (w *writer) edges(n S.Node) string {
	return "(" + list(n.Kids, func(n S.Node) string { return w.words[n.Kind] + w.expr(n.Kids[0]) }) + ")"
}
