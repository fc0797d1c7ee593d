package elab

import (
	"slices"

	"maskwright/api"
	S "maskwright/syntax"
	"maskwright/width"
)

// hasPart reports whether one of some nodes has a name.
func hasPart(list []S.Node, name string) bool {
	return slices.ContainsFunc(list, func(n S.Node) bool { return n.Name == name })
}

// fresh looks at the name of a Bind: some part must have it, and none before.
func fresh(bind S.Node, parts []S.Node, before bool) {
	if !hasPart(parts, bind.Name) {
		fail(bind, api.ErrNone, bind.Name)
	}
	if before {
		fail(bind, api.ErrTwice, bind.Name)
	}
}

// given returns the constants that are given to the parameters of a module or an interface.
func (m *maker) given(s *scope, of, binds S.Node) map[string]width.Thing {
	given := map[string]width.Thing{}
	for _, b := range binds.Kids {
		_, before := given[b.Name]
		fresh(b, of.Kids[0].Kids, before)
		given[b.Name] = m.constant(s, b.Kids[0])
	}
	return given
}

// params declares the parameters of a module or an interface.
func (m *maker) params(s *scope, of S.Node, given map[string]width.Thing) {
	for _, p := range of.Kids[0].Kids {
		value, ok := given[p.Name]
		if !ok {
			value = m.constant(s, p.Kids[0])
		}
		s.declare(p, thing{kind: constant, value: value})
	}
}

// module makes a module in a new scope; port makes its ports.
func (m *maker) module(s *scope, n S.Node, given map[string]width.Thing, port func(S.Node)) {
	m.params(s, n, given)
	for _, p := range n.Kids[1].Kids {
		port(p)
	}
	m.members(s, n.Kids[2])
}

// top makes the module of the design.
func (m *maker) top(n S.Node, given map[string]width.Thing) {
	s := newScope("", m.file)
	s.level = 1
	m.module(s, n, given, func(p S.Node) { m.outer(s, p) })
}

// outer makes a port of the design.
func (m *maker) outer(s *scope, n S.Node) {
	switch n.Kind {
	case S.PortIn:
		t := m.typ(s, n.Kids[0])
		m.signal(s, n, thing{value: whole(t), readOnly: true}, api.Signal{Port: api.In})
	case S.PortView:
		m.outerView(s, n)
	default:
		m.output(s, n, api.Out)
	}
}

// output makes the signal of a PortOut or PortVar.
func (m *maker) output(s *scope, n S.Node, port int) width.Thing {
	t := m.typ(s, n.Kids[0])
	x := api.Signal{Port: port}
	if n.Kind == S.PortVar {
		x.Kind, x.Init = api.Var, m.initial(s, n.Kids[1], t.W, 1)
	}
	return m.signal(s, n, thing{value: whole(t)}, x)
}

// instance is a module that is made as a part of another one.
type instance struct {
	node        S.Node
	around      *scope // where it stands
	inside      *scope // that of its module
	connections map[string]S.Node
}

// instance makes an Inst.
func (m *maker) instance(s *scope, n S.Node) {
	of := n.Kids[0]
	module, ok := m.modules[of.Name]
	if !ok {
		fail(of, api.ErrNone, of.Name)
	}
	given := m.given(s, module, n.Kids[1])
	x := instance{n, s, newScope(s.prefix+n.Name+".", m.file), map[string]S.Node{}}
	for _, b := range n.Kids[2].Kids {
		_, before := x.connections[b.Name]
		fresh(b, module.Kids[1].Kids, before)
		x.connections[b.Name] = b.Kids[0]
	}
	s.declare(n, thing{kind: label})
	x.inside.level = s.level + 1
	if x.inside.level > MaxLevels {
		fail(n, api.ErrLoop, of.Name)
	}
	m.module(x.inside, module, given, func(p S.Node) { m.port(x, p) })
}

// port makes a port of an instance.
func (m *maker) port(x instance, n S.Node) {
	switch n.Kind {
	case S.PortIn:
		m.input(x, n)
	case S.PortView:
		m.innerView(x, n)
	default:
		t := m.output(x.inside, n, api.Inner)
		if to, ok := x.connections[n.Name]; ok {
			e := m.target(x.around, api.Cont, to)
			m.cont(x.around, x.node, e, width.Resized(ref(t), e.W, t.Type.Signed))
		}
	}
}

// connection returns what a port is connected to, which must be something.
func (x instance) connection(n S.Node) S.Node {
	e, ok := x.connections[n.Name]
	if !ok {
		fail(x.node, api.ErrNone, n.Name)
	}
	return e
}

// input makes a PortIn of an instance. No signal is needed if it is connected to one that looks the same.
func (m *maker) input(x instance, n S.Node) {
	t := m.typ(x.inside, n.Kids[0])
	connection := x.connection(n)
	e, own := m.own(x.around, connection)
	port := whole(t)
	if e.Op == api.Ref && own.W == t.W && own.Signed == t.Signed {
		port.Sig = e.Sig
		x.inside.declare(n, thing{kind: signal, value: port, readOnly: true})
		return
	}
	port = m.signal(x.inside, n, thing{value: port, readOnly: true}, api.Signal{})
	m.cont(x.around, x.node, ref(port), m.assigned(x.around, connection, t.W))
}
