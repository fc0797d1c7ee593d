package parse

import S "maskwright/syntax"

// expr reads an Expr.
func (r *reader) expr() S.Node {
	n := r.node(S.Cond)
	first := r.operation(1)
	if !r.skip("?") {
		return first
	}
	yes := r.expr()
	r.expect(":")
	no := r.expr()
	n.Kids = []S.Node{first, yes, no}
	return n
}

// operation reads the rule E of a level: operands with the operations of this rule and of all that it contains, which bind stronger.
func (r *reader) operation(lowest int) S.Node {
	first := r.node(S.None) // not the place of left, which may stand in brackets
	left := r.unary()
	for {
		kind, level := binary(r.symbol())
		if level < lowest {
			return left
		}
		r.pass()
		n := first
		n.Kind, n.Kids = kind, []S.Node{left, r.operation(level + 1)}
		left = n
	}
}

// binary returns the kind of the operation that a sign makes of two operands, and the level of its rule; 0 if it makes none.
func binary(sign string) (int, int) {
	switch sign {
	case "||":
		return S.LOr, 1
	case "&&":
		return S.LAnd, 2
	case "|":
		return S.Or, 3
	case "^":
		return S.Xor, 4
	case "&":
		return S.And, 5
	case "==":
		return S.Eq, 6
	case "!=":
		return S.Ne, 6
	case "===":
		return S.CaseEq, 6
	case "!==":
		return S.CaseNe, 6
	case "<":
		return S.Lt, 7
	case "<=":
		return S.Le, 7
	case ">":
		return S.Gt, 7
	case ">=":
		return S.Ge, 7
	case "<<":
		return S.Shl, 8
	case ">>":
		return S.Shr, 8
	case ">>>":
		return S.Sar, 8
	case "+":
		return S.Add, 9
	case "-":
		return S.Sub, 9
	case "*":
		return S.Mul, 10
	case "/":
		return S.Div, 10
	case "%":
		return S.Mod, 10
	}
	return S.None, 0
}

// unary reads a Unary.
func (r *reader) unary() S.Node {
	kind := prefix(r.symbol())
	if kind == S.None {
		return r.operand()
	}
	n := r.node(kind)
	r.pass()
	n.Kids = []S.Node{r.unary()}
	return n
}

// prefix returns the kind of the operation that a sign makes of one operand; None if it makes none.
func prefix(sign string) int {
	switch sign {
	case "+":
		return S.Plus
	case "-":
		return S.Neg
	case "!":
		return S.LNot
	case "~":
		return S.Not
	case "&":
		return S.RedAnd
	case "|":
		return S.RedOr
	case "^":
		return S.RedXor
	}
	return S.None
}

// operand reads a Unary without a sign.
func (r *reader) operand() S.Node {
	switch r.symbol() {
	case number:
		n := r.node(S.Num)
		t := r.pass()
		n.Num, n.Signed = t.Num, t.Signed
		return n
	case "(":
		return r.inBrackets()
	case name:
		if r.second() == "(" {
			return r.call()
		}
	case "cat":
		return r.cat(r.expr)
	case "rep":
		return r.apply(S.Rep, 2)
	case "size":
		return r.apply(S.Size, 2)
	case "signed":
		return r.apply(S.Signed, 1)
	case "unsigned":
		return r.apply(S.Unsigned, 1)
	case "width":
		return r.apply(S.Width, 1)
	case "log":
		return r.apply(S.Log, 1)
	case "now":
		return r.apply(S.Now, 0)
	}
	return r.place()
}

// call reads the call of a function.
func (r *reader) call() S.Node {
	n := r.node(S.Call)
	n.Name = r.name()
	return r.tupleOrNone(n, r.expr)
}

// cat reads a Cat, of expressions or of targets.
func (r *reader) cat(part func() S.Node) S.Node {
	n := r.node(S.Cat)
	r.pass()
	return r.tuple(n, part)
}

// apply reads a word, and so many expressions in brackets.
func (r *reader) apply(kind, count int) S.Node {
	n := r.node(kind)
	r.pass()
	sign := "("
	for range count {
		r.expect(sign)
		n.Kids = append(n.Kids, r.expr())
		sign = ","
	}
	if count > 0 {
		r.expect(")")
	}
	return n
}

// target reads a Target.
func (r *reader) target() S.Node {
	if r.symbol() == "cat" {
		return r.cat(r.target)
	}
	return r.place()
}

// place reads a Place.
func (r *reader) place() S.Node {
	first := r.node(S.Name)
	n := first
	n.Name = r.name()
	for r.symbol() == "." || r.symbol() == "[" {
		n = r.selection(first, n)
	}
	return n
}

// selection reads a Selection, and makes n the node of it.
func (r *reader) selection(n, before S.Node) S.Node {
	n.Kids = []S.Node{before}
	if r.skip(".") {
		n.Kind, n.Name = S.Select, r.name()
		return n
	}
	r.expect("[")
	n.Kind = S.Index
	n.Kids = append(n.Kids, r.expr())
	switch {
	case r.skip(":"):
		n.Kind = S.Slice
		n.Kids = append(n.Kids, r.expr())
	case r.skip("+:"):
		n.Kind = S.Part
		n.Kids = append(n.Kids, r.expr())
	}
	r.expect("]")
	return n
}
