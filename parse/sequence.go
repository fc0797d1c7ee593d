package parse

import S "maskwright/syntax"

// sequence reads the rule Seq.
func (r *reader) sequence() S.Node {
	n := r.node(S.SeqOr)
	n.Kids = []S.Node{r.seqAnd()}
	for r.skip("or") {
		n.Kids = append(n.Kids, r.seqAnd())
	}
	if len(n.Kids) == 1 {
		return n.Kids[0]
	}
	return n
}

// seqAnd reads the rule SeqAnd.
func (r *reader) seqAnd() S.Node {
	return r.chain("and", S.SeqAnd, r.seqThen, func() []S.Node { return []S.Node{r.seqThen()} })
}

// seqThen reads the rule SeqThen.
func (r *reader) seqThen() S.Node {
	return r.chain("then", S.SeqThen, r.seqTimes, func() []S.Node {
		bounds := r.bounds()
		return append(bounds, r.seqTimes())
	})
}

// seqTimes reads the rule SeqTimes.
func (r *reader) seqTimes() S.Node {
	return r.chain("times", S.SeqTimes, r.seqAtom, r.bounds)
}

// chain reads a first part, and for each time that a word follows the kids behind it: they make a node of a kind with what is before.
func (r *reader) chain(word string, kind int, first func() S.Node, more func() []S.Node) S.Node {
	start := r.node(kind) // not the place of the first part, which may stand in brackets
	n := first()
	for r.skip(word) {
		whole := start
		whole.Kids = append([]S.Node{n}, more()...)
		n = whole
	}
	return n
}

// seqAtom reads the rule SeqAtom.
func (r *reader) seqAtom() S.Node {
	if r.skip("[") {
		n := r.sequence()
		r.expect("]")
		return n
	}
	n := r.node(S.SeqHold)
	n.Kids = []S.Node{r.expr()}
	return n
}

// bounds reads Bounds, which are two kids.
func (r *reader) bounds() []S.Node {
	r.expect("(")
	low, high := r.expr(), S.Node{}
	if r.skip(":") {
		high = r.upper()
	}
	r.expect(")")
	return []S.Node{low, high}
}

// upper reads an upper bound.
func (r *reader) upper() S.Node {
	n := r.node(S.Star)
	if r.skip("*") {
		return n
	}
	return r.expr()
}
