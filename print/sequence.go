package print

import S "maskwright/syntax"

// Precedences of sequences.
const (
	levelOr = iota
	levelAnd
	levelThen
	levelTimes
	levelHold
)

// sequence returns the text of a sequence.
func (w *writer) sequence(n S.Node) string {
	return w.sequenceIn(n, levelOr)
}

// sequenceIn returns the text of a sequence in a place that needs a precedence.
func (w *writer) sequenceIn(n S.Node, need int) string {
	s, level := w.bareSequence(n)
	if level < need {
		return "[" + s + "]"
	}
	return s
}

// bareSequence returns the text of a sequence without brackets around it, and its precedence.
func (w *writer) bareSequence(n S.Node) (string, int) {
	k := n.Kids
	switch n.Kind {
	case S.SeqOr:
		return join(k, " or ", func(n S.Node) string { return w.sequenceIn(n, levelAnd) }), levelOr
	case S.SeqAnd:
		return w.sequenceIn(k[0], levelAnd) + " and " + w.sequenceIn(k[1], levelThen), levelAnd
	case S.SeqThen:
		return w.sequenceIn(k[0], levelThen) + " then " + w.bounds(k[1], k[2]) + " " + w.sequenceIn(k[3], levelTimes), levelThen
	case S.SeqTimes:
		return w.sequenceIn(k[0], levelTimes) + " times " + w.bounds(k[1], k[2]), levelTimes
	}
	return w.expr(k[0]), levelHold
}

// bounds returns the text of bounds.
func (w *writer) bounds(low, high S.Node) string {
	s := "(" + w.expr(low)
	switch high.Kind {
	case S.None:
		return s + ")"
	case S.Star:
		return s + ":*)"
	}
	return s + ":" + w.expr(high) + ")"
}
