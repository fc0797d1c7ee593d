package parse

import S "maskwright/syntax"

// item reads an Item.
func (r *reader) item() S.Node {
	switch r.symbol() {
	case "module":
		return r.module()
	case "interface":
		return r.face()
	}
	return r.definition()
}

// definition reads what can be an Item and a Member.
func (r *reader) definition() S.Node {
	switch r.symbol() {
	case "const":
		return r.constant()
	case "enum":
		return r.enum()
	case "struct":
		return r.record()
	}
	return r.function()
}

// module reads a Module.
func (r *reader) module() S.Node {
	n := r.node(S.Module)
	r.expect("module")
	n.Name = r.name()
	n.Kids = []S.Node{r.params(), r.tupleOrNone(r.node(S.Ports), r.port), r.body()}
	return n
}

// body reads a Body.
func (r *reader) body() S.Node {
	return r.block(r.node(S.Body), r.member)
}

// params reads the Params of a Module or an Interface, which are there with a place if they are missing.
func (r *reader) params() S.Node {
	n := r.node(S.Params)
	if !r.skip("#") {
		return n
	}
	return r.tuple(n, func() S.Node { return r.equation(r.node(S.Param)) })
}

// equation reads a name and its expression, and gives them to a node.
func (r *reader) equation(n S.Node) S.Node {
	n.Name = r.name()
	r.expect("=")
	n.Kids = []S.Node{r.expr()}
	return n
}

// port reads a Port.
func (r *reader) port() S.Node {
	n := r.node(S.PortView)
	switch {
	case r.skip("in"):
		n.Kind = S.PortIn
		return r.typed(n)
	case r.skip("out"):
		return r.portOut(n)
	}
	owner := r.ident()
	r.expect(".")
	n.Kids = []S.Node{owner, r.ident()}
	n.Name = r.name()
	return n
}

// portOut reads what is behind the "out" of a Port.
func (r *reader) portOut(n S.Node) S.Node {
	n.Kind = S.PortOut
	if !r.skip("var") {
		return r.typed(n)
	}
	n.Kind = S.PortVar
	n = r.typed(n)
	n.Kids = append(n.Kids, r.value())
	return n
}

// ident reads an Ident.
func (r *reader) ident() S.Node {
	return r.named(S.Ident)
}

// named reads a name, as a node of a kind.
func (r *reader) named(kind int) S.Node {
	n := r.node(kind)
	n.Name = r.name()
	return n
}

// typed reads a type and a name, and gives them to a node.
func (r *reader) typed(n S.Node) S.Node {
	n.Kids = []S.Node{r.typeOf()}
	n.Name = r.name()
	return n
}

// typeOf reads a Type.
func (r *reader) typeOf() S.Node {
	if r.symbol() == name && r.second() == name {
		return r.named(S.TypeName)
	}
	n := r.node(S.Type)
	n.Signed = r.skip("signed")
	n.Kids = []S.Node{r.extent()}
	return n
}

// extent reads a Range, which can be missing.
func (r *reader) extent() S.Node {
	if r.symbol() != "[" {
		return S.Node{}
	}
	return r.fullExtent()
}

// fullExtent reads a Range that must be there.
func (r *reader) fullExtent() S.Node {
	n := r.node(S.Range)
	r.expect("[")
	from := r.expr()
	r.expect(":")
	n.Kids = []S.Node{from, r.expr()}
	r.expect("]")
	return n
}

// value reads an Init.
func (r *reader) value() S.Node {
	if !r.skip("=") {
		return S.Node{}
	}
	return r.expr()
}

// face reads an Interface.
func (r *reader) face() S.Node {
	n := r.node(S.Interface)
	r.expect("interface")
	n.Name = r.name()
	n.Kids = []S.Node{r.params(), r.block(r.node(S.Inside), r.wireOrView)}
	return n
}

// wireOrView reads a part of an Interface.
func (r *reader) wireOrView() S.Node {
	if r.symbol() == "wire" {
		return r.declaration(S.Wire)
	}
	n := r.node(S.View)
	r.expect("view")
	n.Name = r.name()
	n = r.tuple(n, r.direction)
	r.expect(";")
	return n
}

// direction reads a Dir.
func (r *reader) direction() S.Node {
	n := r.node(S.DirIn)
	if !r.skip("in") {
		n.Kind = S.DirOut
		r.expect("out")
	}
	n.Name = r.name()
	return n
}

// declaration reads a Wire or a Var, of which the word is next.
func (r *reader) declaration(kind int) S.Node {
	n := r.node(kind)
	r.pass()
	n.Kids = append([]S.Node{r.typeOf()}, r.list(r.declared)...)
	r.expect(";")
	return n
}

// declared reads a Decl.
func (r *reader) declared() S.Node {
	n := r.named(S.Decl)
	n.Kids = []S.Node{r.extent(), r.value()}
	return n
}

// constant reads a Const.
func (r *reader) constant() S.Node {
	n := r.node(S.Const)
	r.expect("const")
	n = r.equation(n)
	r.expect(";")
	return n
}

// enum reads an Enum.
func (r *reader) enum() S.Node {
	n := r.node(S.Enum)
	r.expect("enum")
	n.Kids = []S.Node{r.fullExtent()}
	n.Name = r.name()
	r.expect("{")
	n.Kids = append(n.Kids, r.list(func() S.Node {
		item := r.named(S.EnumItem)
		item.Kids = []S.Node{r.value()}
		return item
	})...)
	r.expect("}")
	return n
}

// record reads a Struct.
func (r *reader) record() S.Node {
	n := r.node(S.Struct)
	r.expect("struct")
	n.Name = r.name()
	r.expect("{")
	field := func() S.Node {
		f := r.typed(r.node(S.Field))
		r.expect(";")
		return f
	}
	n.Kids = append([]S.Node{field()}, r.until("}", field)...)
	r.expect("}")
	return n
}

// function reads a Function.
func (r *reader) function() S.Node {
	n := r.node(S.Function)
	r.expect("function")
	n = r.typed(n)
	args := r.tupleOrNone(r.node(S.Args), func() S.Node { return r.typed(r.node(S.Arg)) })
	n.Kids = append(n.Kids, args, r.inner())
	return n
}

// inner reads the variables and the statements of a function.
func (r *reader) inner() S.Node {
	n := r.node(S.Inner)
	r.expect("{")
	for r.symbol() == "var" {
		n.Kids = append(n.Kids, r.declaration(S.Var))
	}
	n.Kids = append(n.Kids, r.until("}", r.statement)...)
	r.expect("}")
	return n
}
