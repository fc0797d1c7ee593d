package elab

import (
	"maskwright/api"
	S "maskwright/syntax"
	"maskwright/width"
)

// link makes a Link.
func (m *maker) link(s *scope, n S.Node) {
	of := n.Kids[0]
	face, ok := m.interfaces[of.Name]
	if !ok {
		fail(of, api.ErrNone, of.Name)
	}
	given := m.given(s, face, n.Kids[1])
	g := &group{of: of.Name, signals: map[string]member{}}
	inside := newScope(s.prefix+n.Name+".", m.file)
	m.inside(inside, face, given, func(d S.Node, x thing) {
		g.signals[d.Name] = member{value: m.signal(inside, d, x, api.Signal{})}
	})
	s.declare(n, thing{kind: bundle, group: g})
}

// inside looks at the parameters and the wires of an interface, of which declare declares the names.
func (m *maker) inside(s *scope, face S.Node, given map[string]width.Thing, declare func(S.Node, thing)) {
	m.params(s, face, given)
	for _, n := range face.Kids[1].Kids {
		if n.Kind != S.Wire {
			continue
		}
		t := m.typ(s, n.Kids[0])
		for _, d := range n.Kids[1:] {
			if d.Kids[0].Kind != S.None || d.Kids[1].Kind != S.None {
				fail(d, api.ErrType, d.Name)
			}
			declare(d, thing{value: whole(t)})
		}
	}
}

// view returns the interface and the view of a PortView.
func (m *maker) view(n S.Node) (S.Node, S.Node) {
	of, name := n.Kids[0], n.Kids[1]
	face, ok := m.interfaces[of.Name]
	if !ok {
		fail(of, api.ErrNone, of.Name)
	}
	for _, v := range face.Kids[1].Kids {
		if v.Kind == S.View && v.Name == name.Name {
			return face, v
		}
	}
	fail(name, api.ErrNone, name.Name)
	return S.Node{}, S.Node{}
}

// direction returns the direction of a DirIn or DirOut.
func direction(n S.Node) int {
	if n.Kind == S.DirOut {
		return api.Out
	}
	return api.In
}

// directions returns the directions of a view by their names.
func directions(view S.Node) map[string]int {
	all := map[string]int{}
	for _, d := range view.Kids {
		if _, twice := all[d.Name]; twice {
			fail(d, api.ErrTwice, d.Name)
		}
		all[d.Name] = direction(d)
	}
	return all
}

// innerView connects a PortView of an instance with a group.
func (m *maker) innerView(x instance, n S.Node) {
	_, view := m.view(n)
	e := x.connection(n)
	t := x.around.find(e.Name)
	if e.Kind != S.Name || t.kind != bundle || t.group.of != n.Kids[0].Name {
		fail(e, api.ErrType, n.Name)
	}
	for _, d := range view.Kids {
		s, ok := t.group.signals[d.Name]
		if !ok || s.direction == api.In && direction(d) == api.Out {
			fail(e, api.ErrType, d.Name)
		}
	}
	g := &group{of: t.group.of, signals: map[string]member{}}
	for name, to := range directions(view) {
		g.signals[name] = member{t.group.signals[name].value, to}
	}
	x.inside.declare(n, thing{kind: bundle, group: g})
}

// outerView makes the ports of the design for a PortView.
func (m *maker) outerView(s *scope, n S.Node) {
	face, view := m.view(n)
	g := &group{of: face.Name, signals: map[string]member{}}
	inside := newScope(s.prefix+n.Name+".", m.file)
	m.inside(inside, face, nil, func(d S.Node, x thing) {
		for _, to := range view.Kids {
			if to.Name == d.Name {
				port := direction(to)
				g.signals[d.Name] = member{m.signal(inside, d, x, api.Signal{Port: port}), port}
				return
			}
		}
		inside.declare(d, thing{kind: signal, value: x.value})
	})
	for _, d := range view.Kids {
		if _, ok := g.signals[d.Name]; !ok {
			fail(d, api.ErrNone, d.Name)
		}
	}
	directions(view)
	s.declare(n, thing{kind: bundle, group: g})
}
