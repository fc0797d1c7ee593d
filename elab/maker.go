package elab

import (
	"strconv"

	"maskwright/api"
	"maskwright/prep"
	S "maskwright/syntax"
	"maskwright/width"
)

// maker makes a design.
type maker struct {
	lines      []prep.Origin
	modules    map[string]S.Node
	interfaces map[string]S.Node
	file       *scope
	design     api.Design
	steps      int
}

func newMaker(f S.File, name string) *maker {
	return &maker{
		lines:      f.Lines,
		modules:    map[string]S.Node{},
		interfaces: map[string]S.Node{},
		file:       newScope("", nil),
		design:     api.Design{Name: name},
	}
}

// stop is a panic with which a fault ends everything.
type stop struct {
	fault width.Fault
}

// attempt returns the fault that ends some work, if there is one.
func attempt(work func()) (fault width.Fault) {
	defer func() {
		switch r := recover().(type) {
		case nil:
		case stop:
			fault = r.fault
		default:
			panic(r)
		}
	}()
	work()
	return
}

// fail ends everything, as something is wrong with a node.
func fail(n S.Node, code api.Errno, text string) {
	panic(stop{width.Fault{Line: n.Line, Col: n.Col, Code: code, Text: text}})
}

// must ends everything if there is a fault.
func must(f width.Fault) {
	if f.Code != api.OK {
		panic(stop{f})
	}
}

// limit ends everything if there are too many parts of some kind; which one is the last one says nothing about a place.
func limit(count, most int) {
	if count > most {
		panic(stop{width.Fault{Code: api.ErrLarge}})
	}
}

// step counts what is looked at.
func (m *maker) step() {
	m.steps++
	limit(m.steps, api.MaxTree)
}

// line returns the line in a file from which a node comes.
func (m *maker) line(n S.Node) int {
	if n.Line < 1 || n.Line > len(m.lines) {
		return 0
	}
	return max(0, m.lines[n.Line-1].Line)
}

// path returns the path of what a scope gives a name.
func path(s *scope, n S.Node, name string) string {
	if len(s.prefix)+len(name) > api.MaxPath {
		fail(n, api.ErrLarge, name)
	}
	return s.prefix + name
}

// numbered returns the path of what has no name, but a letter and a number.
func numbered(s *scope, n S.Node, letter string, number int) string {
	return path(s, n, letter+strconv.Itoa(number))
}

// signal declares the name of a node, and makes the signal of the kind x for which it stands.
func (m *maker) signal(s *scope, n S.Node, t thing, x api.Signal) width.Thing {
	t.kind, t.value.Sig = signal, len(m.design.Signals)
	s.declare(n, t)
	x.Name, x.W, x.Signed, x.Elems = path(s, n, n.Name), t.value.Type.W, t.value.Type.Signed, t.value.Elems
	m.design.Signals = append(m.design.Signals, x)
	limit(len(m.design.Signals), api.MaxSignals)
	return t.value
}

// process makes a process.
func (m *maker) process(s *scope, n S.Node, p api.Proc) {
	p.Name, p.Line = numbered(s, n, "p", len(m.design.Procs)), m.line(n)
	m.design.Procs = append(m.design.Procs, p)
	limit(len(m.design.Procs), api.MaxProcs)
}

// cont makes the process that gives a target always a value.
func (m *maker) cont(s *scope, n S.Node, to, value api.Expr) {
	set := api.Stmt{Op: api.Set, To: to, Args: []api.Expr{value}, Line: m.line(n)}
	m.process(s, n, api.Proc{Kind: api.Cont, Body: set})
}
