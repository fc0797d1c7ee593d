package elab

import (
	"strconv"

	"maskwright/api"
	"maskwright/bits"
	S "maskwright/syntax"
)

// items looks at the items of the file. Modules and interfaces are made later, when they are used.
func (m *maker) items(list []S.Node) {
	for _, n := range list {
		switch n.Kind {
		case S.Module:
			m.file.declare(n, thing{kind: label})
			m.modules[n.Name] = n
		case S.Interface:
			m.file.declare(n, thing{kind: label})
			m.interfaces[n.Name] = n
		default:
			m.definition(m.file, n)
		}
	}
}

// definition declares what can be an item and a member.
func (m *maker) definition(s *scope, n S.Node) {
	switch n.Kind {
	case S.Const:
		value := m.constant(s, n.Kids[0])
		s.declare(n, thing{kind: constant, value: value})
	case S.Enum:
		m.enum(s, n)
	case S.Struct:
		m.structure(s, n)
	default:
		m.function(s, n)
	}
}

// members looks at the members of a Body.
func (m *maker) members(s *scope, body S.Node) {
	for _, n := range body.Kids {
		m.step()
		m.member(s, n)
	}
}

// member looks at a member.
func (m *maker) member(s *scope, n S.Node) {
	switch n.Kind {
	case S.Wire:
		m.wires(s, n)
	case S.Var:
		m.vars(s, n)
	case S.Assign:
		to := m.target(s, api.Cont, n.Kids[0])
		m.cont(s, n, to, m.assigned(s, n.Kids[1], to.W))
	case S.Comb:
		m.body(s, n, api.Comb)
	case S.Seq:
		m.body(s, n, api.Seq)
	case S.Always:
		m.body(s, n, api.Always)
	case S.Initial:
		m.body(s, n, api.Initial)
	case S.Inst:
		m.instance(s, n)
	case S.Link:
		m.link(s, n)
	case S.GenFor:
		m.copies(s, n)
	case S.GenIf:
		m.condition(s, n)
	case S.PropSame, S.PropNext:
		m.property(s, n)
	default:
		m.definition(s, n)
	}
}

// wires makes the wires of a Wire, and what gives them their values.
func (m *maker) wires(s *scope, n S.Node) {
	t := m.typ(s, n.Kids[0])
	for _, d := range n.Kids[1:] {
		x := m.extent(s, d.Kids[0], t)
		if d.Kids[1].Kind == S.None {
			m.signal(s, d, thing{value: x}, api.Signal{})
			continue
		}
		if x.Array {
			fail(d, api.ErrType, d.Name)
		}
		value := m.assigned(s, d.Kids[1], t.W)
		x = m.signal(s, d, thing{value: x}, api.Signal{})
		m.cont(s, d, ref(x), value)
	}
}

// vars makes the variables of a Var.
func (m *maker) vars(s *scope, n S.Node) {
	t := m.typ(s, n.Kids[0])
	for _, d := range n.Kids[1:] {
		x := m.extent(s, d.Kids[0], t)
		init := m.initial(s, d.Kids[1], t.W, x.Elems)
		m.signal(s, d, thing{value: x}, api.Signal{Kind: api.Var, Init: init})
	}
}

// body makes a process with a statement.
func (m *maker) body(s *scope, n S.Node, kind int) {
	p := api.Proc{Kind: kind}
	if kind == api.Seq {
		p.Edges = m.edges(s, n.Kids[0])
	}
	p.Body = m.statement(s, kind, n.Kids[len(n.Kids)-1])
	m.process(s, n, p)
}

// copies looks at the members of a GenFor, once for each of its numbers.
func (m *maker) copies(s *scope, n S.Node) {
	first := m.integer(s, n.Kids[1], 0, MaxIndex)
	last := m.integer(s, n.Kids[2], -1, MaxIndex)
	if last-first >= MaxTurns {
		fail(n, api.ErrLarge, n.Name)
	}
	s.declare(n, thing{kind: label})
	for i := first; i <= last; i++ {
		m.step()
		prefix := s.prefix + n.Name + "." + strconv.FormatInt(i, 10) + "."
		m.members(s.turn(prefix, n, n.Kids[0].Name, i), n.Kids[3])
	}
}

// condition looks at the members of that branch of a GenIf that its condition chooses.
func (m *maker) condition(s *scope, n S.Node) {
	b, _ := m.number(s, n.Kids[0])
	if !bits.Known(b) {
		fail(n.Kids[0], api.ErrConst, "")
	}
	other := n.Kids[2]
	switch {
	case bits.True(b) == 1:
		m.block(s, n, n.Kids[1])
	case other.Kind == S.GenIf:
		m.condition(s, other)
	case other.Kind == S.GenElse:
		m.block(s, other, other.Kids[0])
	}
}

// block looks at the members of a block with the name of a node.
func (m *maker) block(s *scope, n, body S.Node) {
	s.declare(n, thing{kind: label})
	m.members(newScope(s.prefix+n.Name+".", s), body)
}
