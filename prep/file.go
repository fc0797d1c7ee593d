package prep

import (
	"slices"
	"strings"

	"maskwright/api"
	"maskwright/note"
)

// reader is the state of one Run.
type reader struct {
	files  map[string]string
	open   []string // the files that are being read, each one included by the one before it
	macros map[string]macro
	uses   int      // uses of macros that were replaced
	here   api.Note // the place at which messages stand now
	notes  []api.Note
	text   []byte
	lines  []Origin
}

// page is what the lines above in the same file mean for a line.
type page struct {
	conditions []condition // those that are open, each one within the one before it
	comment    bool        // whether the line is within a comment at its beginning
}

// file reads a file. An error, here and below, is ErrLarge, and ends all reading.
func (r *reader) file(name string) api.Errno {
	r.open = append(r.open, name)
	var p page
	number := 0
	for line := range strings.Lines(r.files[name]) {
		number++
		r.here = api.Note{File: name, Line: number}
		if e := r.line(&p, strings.TrimSuffix(line, "\n")); e != api.OK {
			return e
		}
	}
	for _, c := range p.conditions {
		r.here = c.at
		r.report(api.ErrShort, "")
	}
	r.open = r.open[:len(r.open)-1]
	return api.OK
}

// line reads one line of a file.
func (r *reader) line(p *page, line string) api.Errno {
	var word, content string
	if !p.comment {
		r.here.Col, word, content = directive(line)
	}
	if isCondition(word) {
		p.conditions = r.condition(p.conditions, word, content)
		return r.put("", false)
	}
	if !reads(p.conditions) {
		return r.put("", false)
	}
	if word != "" {
		if e := r.put("", false); e != api.OK {
			return e
		}
		return r.carryOut(word, content)
	}
	text, e := r.replaceLine(line, &p.comment)
	if e != api.OK {
		return e
	}
	return r.put(text, text == line)
}

// carryOut carries out a directive that is not about conditions.
func (r *reader) carryOut(word, content string) api.Errno {
	switch word {
	case "define":
		r.define(content)
	case "undef":
		r.undefine(content)
	default:
		return r.include(content)
	}
	return api.OK
}

// include reads another file.
func (r *reader) include(content string) api.Errno {
	name, begun := strings.CutPrefix(content, `"`)
	name, ended := strings.CutSuffix(name, `"`)
	_, there := r.files[name]
	switch {
	case !begun || !ended || !note.File(name):
		r.report(api.ErrSyntax, "include")
	case !there:
		r.report(api.ErrNone, name)
	case slices.Contains(r.open, name) || len(r.open) == MaxFiles:
		r.report(api.ErrLoop, name)
	default:
		return r.file(name)
	}
	return api.OK
}

// put adds a line to the result.
func (r *reader) put(line string, whole bool) api.Errno {
	if len(r.text)+len(line)+1 > api.MaxText {
		return api.ErrLarge
	}
	r.text = append(r.text, line...)
	r.text = append(r.text, '\n')
	r.lines = append(r.lines, Origin{File: r.here.File, Line: r.here.Line, Whole: whole})
	return api.OK
}

// report adds a message at the place that is read now.
func (r *reader) report(code api.Errno, text string) {
	// A column can be greater than note.Check permits, and this does not count here: only the text does.
	if note.Check(api.Note{File: r.here.File, Line: 1, Col: 1, Code: code, Text: text}) != api.OK {
		text = ""
	}
	n := r.here
	n.Code, n.Text = code, text
	r.notes = append(r.notes, n)
	// Few texts can have very many messages, of which only the first ones count in the end.
	if len(r.notes) == 100*note.Max {
		r.notes = note.Sort(r.notes)
	}
}
