package elab

import (
	"math"
	"slices"

	"maskwright/api"
	S "maskwright/syntax"
	"maskwright/width"
)

// inFunction is the kind of the body of a function; other bodies have the kind of their process.
const inFunction = -1

// statement returns a statement in a body of some kind.
func (m *maker) statement(s *scope, kind int, n S.Node) api.Stmt {
	m.step()
	if !permits(kind, n) {
		fail(n, api.ErrType, "")
	}
	var x api.Stmt
	switch n.Kind {
	case S.Block:
		x = api.Stmt{Op: api.Block, Kids: m.statements(s, kind, n.Kids)}
	case S.If:
		x = m.branch(s, kind, n)
	case S.Case:
		x = m.choice(s, kind, n, api.Exact)
	case S.CaseZ:
		x = m.choice(s, kind, n, api.WildZ)
	case S.CaseX:
		x = m.choice(s, kind, n, api.WildX)
	case S.While:
		x = m.loop(s, kind, n, api.While)
	case S.Repeat:
		x = m.loop(s, kind, n, api.Repeat)
	case S.ForUp, S.ForDown:
		x = m.unrolled(s, kind, n)
	case S.Set:
		x = m.assignment(s, kind, n, api.Set)
	case S.Put:
		x = m.assignment(s, kind, n, api.Put)
	default:
		x = m.simple(s, n)
	}
	x.Line = m.line(n)
	return x
}

// permits reports whether a statement can stand in a body of some kind.
func permits(kind int, n S.Node) bool {
	waits := kind == api.Always || kind == api.Initial
	switch n.Kind {
	case S.Delay, S.On, S.Wait:
		return waits
	case S.Set:
		return waits || n.Kids[2].Kind == S.None
	case S.Put, S.Assert, S.Stop, S.Show, S.Write, S.Strobe, S.Monitor:
		return kind != inFunction
	}
	return true
}

// simple returns a statement without other statements that is no assignment.
func (m *maker) simple(s *scope, n S.Node) api.Stmt {
	one := func(op int) api.Stmt { return api.Stmt{Op: op, Args: m.values(s, n.Kids), Text: n.Text} }
	show := func(kind int) api.Stmt {
		x := one(api.Show)
		x.Kind = kind
		return x
	}
	switch n.Kind {
	case S.Delay:
		return one(api.Delay)
	case S.Wait:
		return one(api.Until)
	case S.On:
		return api.Stmt{Op: api.On, Edges: m.edges(s, n.Kids[0])}
	case S.Assert:
		return one(api.Check)
	case S.Show:
		return show(api.Display)
	case S.Write:
		return show(api.Write)
	case S.Strobe:
		return show(api.Strobe)
	case S.Monitor:
		return show(api.Monitor)
	case S.Stop:
		return api.Stmt{Op: api.Stop}
	}
	return api.Stmt{Op: api.Nop}
}

// values returns the own values of expressions.
func (m *maker) values(s *scope, list []S.Node) []api.Expr {
	var values []api.Expr
	for _, n := range list {
		values = append(values, m.alone(s, n))
	}
	return values
}

// statements returns some statements.
func (m *maker) statements(s *scope, kind int, list []S.Node) []api.Stmt {
	var all []api.Stmt
	for _, n := range list {
		all = append(all, m.statement(s, kind, n))
	}
	return all
}

// branch returns an If.
func (m *maker) branch(s *scope, kind int, n S.Node) api.Stmt {
	x := api.Stmt{Op: api.If, Args: m.values(s, n.Kids[:1])}
	branches := n.Kids[1:]
	if branches[1].Kind == S.None {
		branches = branches[:1]
	}
	x.Kids = m.statements(s, kind, branches)
	return x
}

// loop returns a While or a Repeat.
func (m *maker) loop(s *scope, kind int, n S.Node, op int) api.Stmt {
	x := api.Stmt{Op: op, Args: m.values(s, n.Kids[:1])}
	x.Kids = m.statements(s, kind, n.Kids[1:])
	return x
}

// assignment returns a Set or a Put.
func (m *maker) assignment(s *scope, kind int, n S.Node, op int) api.Stmt {
	to := m.target(s, kind, n.Kids[0])
	args := []api.Expr{m.assigned(s, n.Kids[1], to.W)}
	if n.Kids[2].Kind != S.None {
		args = append(args, m.alone(s, n.Kids[2]))
	}
	return api.Stmt{Op: op, To: to, Args: args}
}

// choice returns a Case of some wildness.
func (m *maker) choice(s *scope, kind int, n S.Node, wild int) api.Stmt {
	list := []S.Node{n.Kids[0]}
	for _, item := range n.Kids[1:] {
		list = append(list, patterns(item)...)
	}
	values, f := width.Together(list, m.env(s, list...))
	must(f)
	x := api.Stmt{Op: api.Case, Args: []api.Expr{values[0]}, Kind: wild}
	values = values[1:]
	other := false
	for _, item := range n.Kids[1:] {
		count := len(patterns(item))
		if count == 0 && other {
			fail(item, api.ErrTwice, "default")
		}
		other = other || count == 0
		// A copy, so that the lists of a design share no memory.
		match := slices.Clone(values[:count])
		values = values[count:]
		x.Items = append(x.Items, api.Item{Match: match, Do: m.statement(s, kind, item.Kids[count])})
	}
	return x
}

// patterns returns the patterns of an item.
func patterns(item S.Node) []S.Node {
	return item.Kids[:len(item.Kids)-1]
}

// unrolled returns the statement of a ForUp or ForDown for each of its numbers.
func (m *maker) unrolled(s *scope, kind int, n S.Node) api.Stmt {
	first := m.integer(s, n.Kids[0], math.MinInt32, math.MaxInt32)
	last := m.integer(s, n.Kids[1], math.MinInt32, math.MaxInt32)
	by := int64(1)
	if n.Kind == S.ForDown {
		by = -1
	}
	turns := (last-first)*by + 1
	if turns > MaxTurns {
		fail(n, api.ErrLarge, n.Name)
	}
	x := api.Stmt{Op: api.Block}
	for i := int64(0); i < turns; i++ {
		in := s.turn(s.prefix, n, n.Name, first+i*by)
		x.Kids = append(x.Kids, m.statement(in, kind, n.Kids[2]))
	}
	return x
}
