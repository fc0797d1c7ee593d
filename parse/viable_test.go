package parse_test

import "slices"

// production is a rule without brackets and alternatives: rules have numbers, symbols are texts.
type production struct {
	head int
	body []any
}

// recognizer finds out, by Earley's method, with which token no sentence can go on. It knows nothing of the order in which the rules are tried.
type recognizer struct {
	list  []production
	of    map[int][]int // the productions of each rule
	names map[string]int
	rules int
	empty map[int]bool // the rules that can be nothing
}

// newRecognizer returns one for the sentences of a rule.
func newRecognizer(start string) *recognizer {
	g := &recognizer{of: map[int][]int{}, names: map[string]int{}, rules: 1, empty: map[int]bool{}}
	all := rules()
	for name := range all {
		g.names[name] = g.rules
		g.rules++
	}
	g.add(0, []any{g.names[start], "END"})
	for name, list := range all {
		for _, a := range list {
			g.add(g.names[name], g.body(a))
		}
	}
	for range g.rules {
		for _, p := range g.list {
			if !slices.ContainsFunc(p.body, func(s any) bool { return !g.isEmpty(s) }) {
				g.empty[p.head] = true
			}
		}
	}
	return g
}

// add adds a production.
func (g *recognizer) add(head int, body []any) {
	g.of[head] = append(g.of[head], len(g.list))
	g.list = append(g.list, production{head, body})
}

// body returns the body of a production for an alternative; what is in brackets becomes a rule of its own.
func (g *recognizer) body(a alternative) []any {
	var body []any
	for _, p := range a.parts {
		switch p.mark {
		case '"':
			body = append(body, p.text)
		case 'R':
			body = append(body, g.names[p.text])
		default:
			body = append(body, g.brackets(p))
		}
	}
	return body
}

// brackets makes a rule of what is in brackets.
func (g *recognizer) brackets(p part) int {
	rule := g.rules
	g.rules++
	var before []any
	if p.mark == '{' {
		before = []any{rule}
	}
	if p.mark != '(' {
		g.add(rule, nil)
	}
	for _, a := range p.choice {
		g.add(rule, slices.Concat(before, g.body(a)))
	}
	return rule
}

// isEmpty reports whether a part of a production can be nothing.
func (g *recognizer) isEmpty(s any) bool {
	rule, is := s.(int)
	return is && g.empty[rule]
}

// state is a production of which the parts before at are there, from a token on.
type state struct{ production, at, from int }

// states are those behind a token, and which of them wait for a rule.
type states struct {
	list  []state
	seen  map[state]bool
	waits map[int][]state
}

// add adds a state.
func (s *states) add(new state) {
	if s.seen == nil {
		s.seen, s.waits = map[state]bool{}, map[int][]state{}
	}
	if !s.seen[new] {
		s.seen[new] = true
		s.list = append(s.list, new)
	}
}

// firstBad returns the number of the first symbol with which no sentence can go on, that of the end if more must come, and -1 for a sentence.
func (g *recognizer) firstBad(symbols []string) int {
	all := []*states{{}}
	all[0].add(state{})
	for at, symbol := range append(slices.Clone(symbols), "END") {
		now := all[at]
		next := &states{}
		for i := 0; i < len(now.list); i++ {
			s := now.list[i]
			body := g.list[s.production].body
			if s.at == len(body) {
				for _, w := range all[s.from].waits[g.list[s.production].head] {
					now.add(state{w.production, w.at + 1, w.from})
				}
				continue
			}
			rule, is := body[s.at].(int)
			if !is {
				if body[s.at] == symbol {
					next.add(state{s.production, s.at + 1, s.from})
				}
				continue
			}
			now.waits[rule] = append(now.waits[rule], s)
			for _, p := range g.of[rule] {
				now.add(state{p, 0, at})
			}
			if g.empty[rule] {
				now.add(state{s.production, s.at + 1, s.from})
			}
		}
		if len(next.list) == 0 {
			return at
		}
		all = append(all, next)
	}
	return -1
}
