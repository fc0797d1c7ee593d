package elab

import (
	"maskwright/api"
	"maskwright/design"
	S "maskwright/syntax"
)

// property makes a property.
func (m *maker) property(s *scope, n S.Node) {
	p := api.Prop{Later: n.Kind == S.PropNext, Line: m.line(n)}
	p.Clock = m.signalAt(s, n.Kids[0])
	p.From = m.sequence(s, n.Kids[1])
	p.To = m.sequence(s, n.Kids[2])
	s.declare(n, thing{kind: label})
	p.Name = path(s, n, n.Name)
	m.design.Props = append(m.design.Props, p)
	limit(len(m.design.Props), api.MaxProps)
}

// sequence returns a sequence.
func (m *maker) sequence(s *scope, n S.Node) api.Temporal {
	switch n.Kind {
	case S.SeqHold:
		return api.Temporal{Op: api.Holds, E: m.alone(s, n.Kids[0])}
	case S.SeqThen:
		x := m.counted(s, n, api.Then)
		x.Kids = append(x.Kids, m.sequence(s, n.Kids[3]))
		return x
	case S.SeqTimes:
		return m.counted(s, n, api.Times)
	}
	x := api.Temporal{Op: api.Either}
	if n.Kind == S.SeqAnd {
		x.Op = api.Both
	}
	for _, kid := range n.Kids {
		x.Kids = append(x.Kids, m.sequence(s, kid))
	}
	return x
}

// counted returns a sequence with bounds, and with its first kid.
func (m *maker) counted(s *scope, n S.Node, op int) api.Temporal {
	x := api.Temporal{Op: op, Kids: []api.Temporal{m.sequence(s, n.Kids[0])}}
	lo := m.integer(s, n.Kids[1], 0, design.MaxSpan)
	hi := lo
	switch to := n.Kids[2]; to.Kind {
	case S.None:
	case S.Star:
		hi = -1
	default:
		hi = m.integer(s, to, lo, design.MaxSpan)
	}
	x.Lo, x.Hi = int(lo), int(hi)
	return x
}
