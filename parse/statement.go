package parse

import S "maskwright/syntax"

// statement reads a Stmt.
func (r *reader) statement() S.Node {
	switch r.symbol() {
	case ";":
		n := r.node(S.Nop)
		r.pass()
		return n
	case "{":
		return r.block(r.node(S.Block), r.statement)
	case "if":
		return r.conditional()
	case "case":
		return r.cases(S.Case)
	case "casez":
		return r.cases(S.CaseZ)
	case "casex":
		return r.cases(S.CaseX)
	case "while":
		return r.loop(S.While)
	case "repeat":
		return r.loop(S.Repeat)
	case "for":
		return r.counted()
	case "delay":
		return r.simple(S.Delay, r.expr)
	case "on":
		return r.simple(S.On, r.edges)
	case "wait":
		return r.simple(S.Wait, r.inBrackets)
	case "stop":
		return r.simple(S.Stop)
	case "check":
		return r.assertion()
	case "show":
		return r.output(S.Show)
	case "write":
		return r.output(S.Write)
	case "strobe":
		return r.output(S.Strobe)
	case "monitor":
		return r.output(S.Monitor)
	}
	return r.assignment()
}

// conditional reads an If. The statement that is read first takes an "else", so that it belongs to the last possible "if".
func (r *reader) conditional() S.Node {
	n := r.node(S.If)
	r.expect("if")
	n.Kids = []S.Node{r.inBrackets(), r.statement(), {}}
	if r.skip("else") {
		n.Kids[2] = r.statement()
	}
	return n
}

// cases reads a Case, CaseZ or CaseX.
func (r *reader) cases(kind int) S.Node {
	n := r.node(kind)
	r.pass()
	n.Kids = []S.Node{r.inBrackets()}
	return r.block(n, r.caseItem)
}

// caseItem reads a CaseItem.
func (r *reader) caseItem() S.Node {
	n := r.node(S.CaseItem)
	if !r.skip("default") {
		n.Kids = r.list(r.expr)
	}
	r.expect(":")
	n.Kids = append(n.Kids, r.statement())
	return n
}

// loop reads a While or a Repeat.
func (r *reader) loop(kind int) S.Node {
	n := r.node(kind)
	r.pass()
	n.Kids = []S.Node{r.inBrackets(), r.statement()}
	return n
}

// counted reads a ForUp or a ForDown.
func (r *reader) counted() S.Node {
	n := r.node(S.ForUp)
	r.expect("for")
	r.expect("(")
	n = r.equation(n)
	if r.skip("downto") {
		n.Kind = S.ForDown
	} else {
		r.expect("to")
	}
	to := r.expr()
	r.expect(")")
	n.Kids = append(n.Kids, to, r.statement())
	return n
}

// assignment reads a Set or a Put.
func (r *reader) assignment() S.Node {
	n := r.node(S.Set)
	to := r.target()
	if r.skip("<=") {
		n.Kind = S.Put
	} else {
		r.expect("=")
	}
	after := S.Node{}
	if r.skip("after") {
		after = r.inBrackets()
	}
	n.Kids = []S.Node{to, r.expr(), after}
	r.expect(";")
	return n
}

// simple reads a statement of a word and what may follow it.
func (r *reader) simple(kind int, parts ...func() S.Node) S.Node {
	n := r.node(kind)
	r.pass()
	for _, part := range parts {
		n.Kids = append(n.Kids, part())
	}
	r.expect(";")
	return n
}

// assertion reads an Assert.
func (r *reader) assertion() S.Node {
	n := r.node(S.Assert)
	r.expect("check")
	r.expect("(")
	n.Kids = []S.Node{r.expr()}
	if r.skip(",") {
		n.Text = r.expect(text).Text
	}
	r.expect(")")
	r.expect(";")
	return n
}

// output reads a Show, Write, Strobe or Monitor.
func (r *reader) output(kind int) S.Node {
	n := r.node(kind)
	r.pass()
	r.expect("(")
	n.Text = r.expect(text).Text
	for r.skip(",") {
		n.Kids = append(n.Kids, r.expr())
	}
	r.expect(")")
	r.expect(";")
	return n
}
