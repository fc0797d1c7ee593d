package parse

import S "maskwright/syntax"

// member reads a Member.
func (r *reader) member() S.Node {
	switch r.symbol() {
	case "wire":
		return r.declaration(S.Wire)
	case "var":
		return r.declaration(S.Var)
	case "assign":
		return r.assign()
	case "comb":
		return r.process(S.Comb)
	case "seq":
		return r.clocked()
	case "always":
		return r.process(S.Always)
	case "initial":
		return r.process(S.Initial)
	case "inst":
		return r.instance()
	case "link":
		return r.link()
	case "for":
		return r.copies()
	case "if":
		return r.choice()
	case "property":
		return r.property()
	}
	return r.definition()
}

// assign reads an Assign.
func (r *reader) assign() S.Node {
	n := r.node(S.Assign)
	r.expect("assign")
	to := r.target()
	r.expect("=")
	n.Kids = []S.Node{to, r.expr()}
	r.expect(";")
	return n
}

// process reads a word and a statement, as a node of a kind.
func (r *reader) process(kind int) S.Node {
	n := r.node(kind)
	r.pass()
	n.Kids = []S.Node{r.statement()}
	return n
}

// clocked reads a Seq.
func (r *reader) clocked() S.Node {
	n := r.node(S.Seq)
	r.expect("seq")
	n.Kids = []S.Node{r.edges(), r.statement()}
	return n
}

// edges reads Edges.
func (r *reader) edges() S.Node {
	return r.tuple(r.node(S.Edges), func() S.Node {
		n := r.node(S.EdgeAny)
		switch {
		case r.skip("rise"):
			n.Kind = S.EdgeRise
		case r.skip("fall"):
			n.Kind = S.EdgeFall
		}
		n.Kids = []S.Node{r.target()}
		return n
	})
}

// instance reads an Inst.
func (r *reader) instance() S.Node {
	n := r.node(S.Inst)
	r.expect("inst")
	n.Name = r.name()
	r.expect(":")
	n.Kids = []S.Node{r.ident(), r.settings(), r.tupleOrNone(r.node(S.Binds), r.bind)}
	r.expect(";")
	return n
}

// link reads a Link.
func (r *reader) link() S.Node {
	n := r.node(S.Link)
	r.expect("link")
	n.Name = r.name()
	r.expect(":")
	n.Kids = []S.Node{r.ident(), r.settings()}
	r.expect(";")
	return n
}

// settings reads the Binds behind a "#", which are there with a place if they are missing.
func (r *reader) settings() S.Node {
	if !r.skip("#") {
		return r.node(S.Binds)
	}
	return r.tuple(r.node(S.Binds), r.bind)
}

// bind reads a Bind.
func (r *reader) bind() S.Node {
	return r.equation(r.node(S.Bind))
}

// copies reads a GenFor.
func (r *reader) copies() S.Node {
	n := r.node(S.GenFor)
	r.expect("for")
	r.expect("(")
	variable := r.ident()
	r.expect("=")
	from := r.expr()
	r.expect("to")
	to := r.expr()
	r.expect(")")
	r.expect(":")
	n.Name = r.name()
	n.Kids = []S.Node{variable, from, to, r.body()}
	return n
}

// choice reads a GenIf.
func (r *reader) choice() S.Node {
	n := r.node(S.GenIf)
	r.expect("if")
	condition := r.inBrackets()
	r.expect(":")
	n.Name = r.name()
	n.Kids = []S.Node{condition, r.body(), r.otherwise()}
	return n
}

// otherwise reads the other branch of a GenIf, which can be missing.
func (r *reader) otherwise() S.Node {
	if !r.skip("else") {
		return S.Node{}
	}
	if r.symbol() == "if" {
		return r.choice()
	}
	n := r.node(S.GenElse)
	r.expect(":")
	n.Name = r.name()
	n.Kids = []S.Node{r.body()}
	return n
}

// property reads a PropSame or a PropNext.
func (r *reader) property() S.Node {
	n := r.node(S.PropSame)
	r.expect("property")
	n.Name = r.name()
	r.expect("(")
	r.expect("rise")
	clock := r.target()
	r.expect(")")
	from := r.sequence()
	if r.skip("=>") {
		n.Kind = S.PropNext
	} else {
		r.expect("->")
	}
	n.Kids = []S.Node{clock, from, r.sequence()}
	r.expect(";")
	return n
}
