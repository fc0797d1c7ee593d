package prep

import (
	"strings"

	"maskwright/api"
)

// macro is a macro; it has parameters, or it is used without parentheses.
type macro struct {
	params []string
	body   string
}

// define carries out the directive define.
func (r *reader) define(content string) {
	name := nameOf(content)
	if !isMacro(name) {
		r.report(api.ErrName, name)
		return
	}
	rest := content[len(name):]
	m := macro{body: trim(rest)}
	if inner, begun := strings.CutPrefix(rest, "("); begun {
		list, body, ended := strings.Cut(inner, ")")
		if !ended {
			r.report(api.ErrShort, name)
			return
		}
		m = macro{params: split(list), body: trim(body)}
		if wrong, found := firstWrong(m.params); found {
			r.report(api.ErrName, wrong)
			return
		}
	} else if rest != "" && trim(rest[:1]) != "" {
		r.report(api.ErrSyntax, name)
		return
	}
	if e := r.check(name, m); e != api.OK {
		r.report(e, name)
		return
	}
	r.macros[name] = m
}

// split returns the parameters of a list, of which there is always one.
func split(list string) []string {
	params := strings.Split(list, ",")
	for i, p := range params {
		params[i] = trim(p)
	}
	return params
}

// firstWrong returns the first parameter that is no name or stands before, and whether there is one.
func firstWrong(params []string) (string, bool) {
	seen := map[string]bool{}
	for _, p := range params {
		if !isMacro(p) || seen[p] {
			return p, true
		}
		seen[p] = true
	}
	return "", false
}

// check returns why a macro cannot be defined.
func (r *reader) check(name string, m macro) api.Errno {
	_, twice := r.macros[name]
	switch {
	case len(m.params) > MaxArgs || len(m.body) > MaxBody:
		return api.ErrLarge
	case !isBody(m.body):
		return api.ErrForm
	case twice:
		return api.ErrTwice
	}
	return api.OK
}

// undefine carries out the directive undef.
func (r *reader) undefine(name string) {
	_, defined := r.macros[name]
	switch {
	case !isMacro(name):
		r.report(api.ErrName, name)
	case !defined:
		r.report(api.ErrNone, name)
	default:
		delete(r.macros, name)
	}
}
