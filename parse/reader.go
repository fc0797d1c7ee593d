package parse

import (
	"maskwright/lex"
	S "maskwright/syntax"
)

// The symbols of the grammar that are not written in quotation marks; no sign or word has such a text.
const (
	end    = "END"
	name   = "NAME"
	number = "NUMBER"
	text   = "STRING"
)

// reader goes through the tokens of a source, and stays at the first one that does not fit. From then on no symbol is there, so that all rules that are being read come to their ends without reading on.
type reader struct {
	tokens []lex.Token
	at     int
	failed bool
}

// symbolOf returns the symbol of the grammar that a token is.
func symbolOf(t lex.Token) string {
	switch t.Kind {
	case lex.End:
		return end
	case lex.Name:
		return name
	case lex.Number:
		return number
	case lex.String:
		return text
	}
	return t.Text
}

// symbol returns the next symbol; nothing if a token did not fit.
func (r *reader) symbol() string {
	if r.failed {
		return ""
	}
	return symbolOf(r.tokens[r.at])
}

// second returns the symbol behind the next one, which must be there.
func (r *reader) second() string {
	return symbolOf(r.tokens[r.at+1])
}

// pass passes and returns the next token, of which the symbol is known.
func (r *reader) pass() lex.Token {
	t := r.tokens[r.at]
	r.at++
	return t
}

// skip passes the next token if it is a symbol, and reports whether it was.
func (r *reader) skip(symbol string) bool {
	if r.symbol() != symbol {
		return false
	}
	r.pass()
	return true
}

// expect passes and returns the next token, which does not fit if it is not this symbol.
func (r *reader) expect(symbol string) lex.Token {
	if r.symbol() != symbol {
		r.failed = true
		return lex.Token{}
	}
	return r.pass()
}

// name passes and returns a name.
func (r *reader) name() string {
	return r.expect(name).Text
}

// node returns a node of a kind with the place of the next token.
func (r *reader) node(kind int) S.Node {
	t := r.tokens[r.at]
	return S.Node{Kind: kind, Line: t.Line, Col: t.Col}
}

// until reads parts as long as a symbol is not there; each part has at least one token.
func (r *reader) until(last string, part func() S.Node) []S.Node {
	var parts []S.Node
	for !r.failed && r.symbol() != last {
		parts = append(parts, part())
	}
	return parts
}

// list reads parts with commas between them, at least one.
func (r *reader) list(part func() S.Node) []S.Node {
	parts := []S.Node{part()}
	for r.skip(",") {
		parts = append(parts, part())
	}
	return parts
}

// tuple reads a list in brackets, and adds its parts to the kids of a node.
func (r *reader) tuple(n S.Node, part func() S.Node) S.Node {
	r.expect("(")
	n.Kids = append(n.Kids, r.list(part)...)
	r.expect(")")
	return n
}

// tupleOrNone reads a list in brackets, between which there can be nothing, and adds its parts to the kids of a node.
func (r *reader) tupleOrNone(n S.Node, part func() S.Node) S.Node {
	r.expect("(")
	if r.symbol() != ")" {
		n.Kids = append(n.Kids, r.list(part)...)
	}
	r.expect(")")
	return n
}

// block reads parts in braces, and adds them to the kids of a node.
func (r *reader) block(n S.Node, part func() S.Node) S.Node {
	r.expect("{")
	n.Kids = append(n.Kids, r.until("}", part)...)
	r.expect("}")
	return n
}

// inBrackets reads an expression in brackets.
func (r *reader) inBrackets() S.Node {
	r.expect("(")
	n := r.expr()
	r.expect(")")
	return n
}
