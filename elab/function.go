package elab

import (
	"maskwright/api"
	S "maskwright/syntax"
	"maskwright/width"
)

// function is a function of a source, which is made when something calls it.
type function struct {
	node   S.Node
	scope  *scope // its own
	result width.Type
	args   []width.Type
	vars   []api.Signal
	made   bool
	number int
}

// function declares a function, with its arguments and its result.
func (m *maker) function(s *scope, n S.Node) {
	f := &function{node: n, result: m.typ(s, n.Kids[0])}
	args := n.Kids[1].Kids
	for _, a := range args {
		f.args = append(f.args, m.typ(s, a.Kids[0]))
	}
	s.declare(n, thing{kind: callable, function: f})
	f.scope = s.lasting()
	for i, a := range args {
		f.variable(a, whole(f.args[i]))
	}
	f.variable(n, whole(f.result))
}

// variable declares a variable of a function.
func (f *function) variable(n S.Node, t width.Thing) width.Thing {
	t.Sig, t.Local = len(f.vars), true
	f.scope.declare(n, thing{kind: signal, value: t})
	f.vars = append(f.vars, api.Signal{Name: n.Name, Kind: api.Var, W: t.Type.W, Signed: t.Type.Signed, Elems: t.Elems})
	limit(len(f.vars), api.MaxSignals)
	return t
}

// thing returns what expressions know of a function.
func (f *function) thing() width.Thing {
	return width.Thing{Kind: width.Func, Sig: f.number, Args: f.args, Type: f.result}
}

// build makes a function if it was not made before.
func (m *maker) build(f *function) {
	if f.made {
		return
	}
	body := api.Stmt{Op: api.Block, Line: m.line(f.node)}
	for _, n := range f.node.Kids[2].Kids {
		if n.Kind == S.Var {
			body.Kids = append(body.Kids, m.inner(f, n)...)
		} else {
			body.Kids = append(body.Kids, m.statement(f.scope, inFunction, n))
		}
	}
	f.made, f.number = true, len(m.design.Funcs)
	name := numbered(f.scope, f.node, "f", f.number)
	m.design.Funcs = append(m.design.Funcs, api.Func{Name: name, Vars: f.vars, Args: len(f.args), Body: body})
	limit(len(m.design.Funcs), api.MaxFuncs)
}

// inner declares the variables of a Var in a function, and returns what gives them their initial values.
func (m *maker) inner(f *function, n S.Node) []api.Stmt {
	t := m.typ(f.scope, n.Kids[0])
	var sets []api.Stmt
	for _, d := range n.Kids[1:] {
		x := m.extent(f.scope, d.Kids[0], t)
		if d.Kids[1].Kind == S.None {
			f.variable(d, x)
			continue
		}
		if x.Array {
			fail(d, api.ErrType, d.Name)
		}
		value := m.assigned(f.scope, d.Kids[1], t.W)
		x = f.variable(d, x)
		sets = append(sets, api.Stmt{Op: api.Set, To: ref(x), Args: []api.Expr{value}, Line: m.line(d)})
	}
	return sets
}
