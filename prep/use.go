package prep

import (
	"slices"
	"strings"

	"maskwright/api"
)

// replaceLine returns a line of a file with its macros replaced. within says whether the line begins within a comment, and then whether the next one does.
func (r *reader) replaceLine(line string, within *bool) (string, api.Errno) {
	start := 0
	if *within {
		start, *within = comment(line)
	}
	keep := func(s string) int {
		const begin = "/*"
		rest, begun := strings.CutPrefix(s, begin)
		if !begun {
			return kept(s)
		}
		n, more := comment(rest)
		*within = more
		return len(begin) + n
	}
	text, e := r.replace(line[start:], 0, start+1, keep)
	return line[:start] + text, e
}

// replace returns a text that stands within depth uses with its own uses replaced. keep returns how many bytes at the beginning of a text are kept as they are.
func (r *reader) replace(s string, depth, col int, keep func(s string) int) (string, api.Errno) {
	var out []byte
	for i := 0; i < len(s); {
		n := keep(s[i:])
		if n == 0 && s[i] == '`' {
			// All messages about uses within a use stand where the outermost one does.
			if depth == 0 {
				r.here.Col = col + i
			}
			text, size, e := r.use(s[i:], depth)
			if e != api.OK {
				return "", e
			}
			out = append(out, text...)
			i += size
		} else {
			n = max(n, 1)
			out = append(out, s[i:i+n]...)
			i += n
		}
		if len(out) > api.MaxText {
			return "", api.ErrLarge
		}
	}
	return string(out), api.OK
}

// use returns what replaces the use of a macro with which s begins, and how many bytes it has.
func (r *reader) use(s string, depth int) (string, int, api.Errno) {
	name := nameOf(s[1:])
	size := 1 + len(name)
	m, there := r.macros[name]
	if !there {
		r.report(api.ErrNone, name)
		return "", size, api.OK
	}
	if depth == MaxDepth {
		r.report(api.ErrLoop, name)
		return "", size, api.OK
	}
	r.uses++
	if r.uses > MaxUses {
		return "", 0, api.ErrLarge
	}
	body := m.body
	if len(m.params) > 0 {
		args, read, e := arguments(s[size:])
		size += read
		if e == api.OK && len(args) != len(m.params) {
			e = api.ErrForm
		}
		if e != api.OK {
			r.report(e, name)
			return "", size, api.OK
		}
		body, e = insert(m, args)
		if e != api.OK {
			return "", 0, e
		}
	}
	text, e := r.replace(body, depth+1, 0, kept)
	return text, size, e
}

// arguments reads the arguments with which s begins, and returns them and how many bytes were read.
func arguments(s string) ([]string, int, api.Errno) {
	if !strings.HasPrefix(s, "(") {
		return nil, 0, api.ErrForm
	}
	var list []string
	start, open := 1, 0
	for i := 1; i < len(s); i++ {
		if n := kept(s[i:]); n > 0 {
			i += n - 1
			continue
		}
		switch c := s[i]; {
		case c == '(' || c == '[' || c == '{':
			open++
		case open > 0 && (c == ')' || c == ']' || c == '}'):
			open--
		case open == 0 && c == ',':
			list = append(list, trim(s[start:i]))
			start = i + 1
		case open == 0 && c == ')':
			return append(list, trim(s[start:i])), i + 1, api.OK
		}
	}
	return nil, len(s), api.ErrShort
}

// insert returns the body of a macro with its parameters replaced by arguments.
func insert(m macro, args []string) (string, api.Errno) {
	var out []byte
	for rest := m.body; rest != ""; {
		n := unit(rest)
		text := rest[:n]
		rest = rest[n:]
		// Nothing but a name can be equal to a parameter.
		if k := slices.Index(m.params, text); k >= 0 {
			text = args[k]
		}
		if len(out)+len(text) > api.MaxText {
			return "", api.ErrLarge
		}
		out = append(out, text...)
	}
	return string(out), api.OK
}

// unit returns the size of what stands at the beginning of a body: a kept piece, a number, a name or another byte.
func unit(s string) int {
	if n := kept(s); n > 0 {
		return n
	}
	switch c := s[0]; {
	case isDigit(c):
		return span(s, inNumber)
	case isLetter(c):
		return span(s, inName)
	}
	return 1
}
