package prep

import "maskwright/api"

// condition is a condition that is open.
type condition struct {
	at    api.Note // the place of its ifdef or ifndef
	outer bool     // whether it lies in a part that is read
	read  bool     // whether its last part is read
	done  bool     // whether no further part can be read
	ended bool     // whether it has an else
}

// isCondition reports whether the word of a directive is about conditions.
func isCondition(word string) bool {
	switch word {
	case "ifdef", "ifndef", "elsif", "else", "endif":
		return true
	}
	return false
}

// reads reports whether a line within these conditions is read.
func reads(list []condition) bool {
	return len(list) == 0 || list[len(list)-1].read
}

// condition carries out a directive about conditions, and returns those that are open then.
func (r *reader) condition(list []condition, word, content string) []condition {
	begins := word == "ifdef" || word == "ifndef"
	if !begins && len(list) == 0 {
		r.report(api.ErrOrder, word)
		return list
	}
	wanted := r.wanted(word, content)
	if word == "endif" {
		return list[:len(list)-1]
	}
	if begins {
		list = append(list, condition{at: r.here, outer: reads(list)})
	}
	c := &list[len(list)-1]
	if c.ended {
		r.report(api.ErrOrder, word)
	}
	c.read = c.outer && wanted && !c.done
	c.done = c.done || wanted
	c.ended = c.ended || word == "else"
	return list
}

// wanted reports whether a part that begins with this directive is read if no other one was.
func (r *reader) wanted(word, content string) bool {
	if word == "else" || word == "endif" {
		if content != "" {
			r.report(api.ErrSyntax, word)
		}
		return true
	}
	if !isMacro(content) {
		r.report(api.ErrName, content)
		return false
	}
	_, defined := r.macros[content]
	return defined == (word != "ifndef")
}
