package print

import (
	"strings"

	S "maskwright/syntax"
)

// writer writes the lines of a file.
type writer struct {
	words     map[int]string
	operators map[int]operator
	out       strings.Builder
	indent    string
}

// newWriter returns a writer that has written nothing.
func newWriter() *writer {
	return &writer{words: words(), operators: operators()}
}

// line writes a line.
func (w *writer) line(text string) {
	w.out.WriteString(w.indent + text + "\n")
}

// block writes a block with a head, and its parts.
func (w *writer) block(head string, list []S.Node, part func(S.Node)) {
	w.braces(head+" {", list, part)
}

// braces writes a line that opens a pair of braces, the parts between them, and the line that closes it.
func (w *writer) braces(open string, list []S.Node, part func(S.Node)) {
	w.line(open)
	outer := w.indent
	w.indent += "  "
	for _, n := range list {
		part(n)
	}
	w.indent = outer
	w.line("}")
}

// list returns the texts of nodes as a list.
func list(nodes []S.Node, text func(S.Node) string) string {
	return join(nodes, ", ", text)
}

// join returns the texts of nodes with a separator between them.
func join(nodes []S.Node, separator string, text func(S.Node) string) string {
	var texts []string
	for _, n := range nodes {
		texts = append(texts, text(n))
	}
	return strings.Join(texts, separator)
}
