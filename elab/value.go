package elab

import (
	"maskwright/api"
	"maskwright/bits"
	S "maskwright/syntax"
	"maskwright/width"
)

// env returns what some expressions can use, which are looked at together. The functions that they call are made ahead of them.
func (m *maker) env(s *scope, list ...S.Node) width.Env {
	names := map[string]width.Thing{}
	enter := func(n S.Node) bool {
		if n.Kind != S.Name && n.Kind != S.Call {
			return true
		}
		t := s.find(n.Name)
		if n.Kind == S.Call && t.kind == callable {
			m.build(t.function)
		}
		t.enter(names, n.Name)
		return true
	}
	for _, n := range list {
		S.Walk(n, enter)
	}
	return width.Env{Names: names, Funcs: m.design.Funcs}
}

// own returns the own value of an expression.
func (m *maker) own(s *scope, n S.Node) (api.Expr, width.Type) {
	e, t, f := width.Own(n, m.env(s, n))
	must(f)
	return e, t
}

// alone returns the own value of an expression, of which the type does not matter.
func (m *maker) alone(s *scope, n S.Node) api.Expr {
	e, _ := m.own(s, n)
	return e
}

// assigned returns an expression as the value of a target of w bits.
func (m *maker) assigned(s *scope, n S.Node, w int) api.Expr {
	e, f := width.Assigned(n, m.env(s, n), w)
	must(f)
	return e
}

// number returns the value of a constant, and whether it has a sign.
func (m *maker) number(s *scope, n S.Node) (api.Bits, bool) {
	b, signed, f := width.Number(n, m.env(s, n))
	must(f)
	return b, signed
}

// constant returns a constant as what a name can stand for.
func (m *maker) constant(s *scope, n S.Node) width.Thing {
	return constantOf(m.number(s, n))
}

// integer returns the value of a constant that lies within some bounds.
func (m *maker) integer(s *scope, n S.Node, lo, hi int64) int64 {
	v, f := width.Int(n, m.env(s, n), lo, hi)
	must(f)
	return v
}

// initial returns the initial value of some elements of w bits; none if there is no expression.
func (m *maker) initial(s *scope, n S.Node, w, elems int) []api.Bits {
	if n.Kind == S.None {
		return nil
	}
	b, signed := m.number(s, n)
	list := make([]api.Bits, elems)
	for i := range list {
		list[i] = bits.Resize(b, w, signed)
	}
	return list
}

// ref returns the value of a whole signal or variable.
func ref(t width.Thing) api.Expr {
	return api.Expr{Op: api.Ref, W: t.Type.W, Signed: t.Type.Signed, Sig: t.Sig, Local: t.Local}
}

// signalAt returns the number of the signal that a place names as a whole.
func (m *maker) signalAt(s *scope, n S.Node) int {
	e := m.alone(s, n)
	if e.Op != api.Ref {
		fail(n, api.ErrType, width.Root(n))
	}
	return e.Sig
}

// edges returns the edges of a process or a statement.
func (m *maker) edges(s *scope, n S.Node) []api.Edge {
	var list []api.Edge
	for _, x := range n.Kids {
		g := api.Edge{Kind: api.Any, Sig: m.signalAt(s, x.Kids[0])}
		switch x.Kind {
		case S.EdgeRise:
			g.Kind = api.Rise
		case S.EdgeFall:
			g.Kind = api.Fall
		}
		list = append(list, g)
	}
	return list
}

// target returns what an assignment sets in a body of some kind.
func (m *maker) target(s *scope, kind int, n S.Node) api.Expr {
	env := m.env(s, n)
	e, f := width.Target(n, env)
	must(f)
	m.places(s, kind, n, env)
	return e
}

// places looks at the places in a target, of which the names are known.
func (m *maker) places(s *scope, kind int, n S.Node, env width.Env) {
	if n.Kind == S.Cat {
		for _, kid := range n.Kids {
			m.places(s, kind, kid, env)
		}
		return
	}
	if !m.sets(kind, s.at(n)) {
		fail(n, api.ErrType, width.Root(n))
	}
	for kind == api.Cont && n.Kind != S.Name {
		if n.Kind == S.Index || n.Kind == S.Part {
			_, _, f := width.Number(n.Kids[1], env)
			must(f)
		}
		n = n.Kids[0]
	}
}

// at returns the signal or variable that a place names.
func (s *scope) at(n S.Node) thing {
	selected := ""
	for n.Kind != S.Name {
		selected = n.Name
		n = n.Kids[0]
	}
	t := s.find(n.Name)
	if t.kind == bundle {
		x := t.group.signals[selected]
		return thing{kind: signal, value: x.value, readOnly: x.direction == api.In}
	}
	return t
}

// sets reports whether a body of some kind can set a signal or variable.
func (m *maker) sets(kind int, t thing) bool {
	if t.readOnly {
		return false
	}
	return t.value.Local || (kind == api.Cont) == (m.design.Signals[t.value.Sig].Kind == api.Wire)
}
