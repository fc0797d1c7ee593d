package note

import (
	"strconv"
	"strings"

	"maskwright/api"
)

// beyond is greater than every line and every column that a message may have, and stands for all numbers above it.
const beyond = api.MaxText + 2

// Text returns the text of a message.
func Text(n api.Note) (string, api.Errno) {
	if e := Check(n); e != api.OK {
		return "", e
	}
	s := n.File + ":" + strconv.Itoa(n.Line) + ":" + strconv.Itoa(n.Col) + ": " + Name(n.Code)
	if n.Text != "" {
		s += " " + n.Text
	}
	return s, api.OK
}

// Read reads the text of a message.
func Read(s string) (api.Note, api.Errno) {
	n, ok := takeApart(s)
	if !ok {
		return api.Note{}, api.ErrSyntax
	}
	if e := Check(n); e != api.OK {
		return api.Note{}, e
	}
	return n, api.OK
}

// takeApart reports whether a text has the form of a message, and returns its parts.
func takeApart(s string) (api.Note, bool) {
	file, s, _ := strings.Cut(s, ":")
	line, s, _ := strings.Cut(s, ":")
	col, s, _ := strings.Cut(s, ":")
	s, blank := strings.CutPrefix(s, " ")
	word, text, more := strings.Cut(s, " ")
	n := api.Note{File: file, Line: number(line), Col: number(col), Code: code(word), Text: text}
	ok := n.Line >= 0 && n.Col >= 0 && blank && n.Code != api.OK && (text != "" || !more)
	return n, ok
}

// number returns the number that s is, or -1 if it is none.
func number(s string) int {
	if s == "" || s[0] == '0' && s != "0" || !within(s, '0', '9') {
		return -1
	}
	n := 0
	for i := range len(s) {
		n = min(n*10+int(s[i]-'0'), beyond)
	}
	return n
}

// code returns the error code with this word, or OK if there is none.
func code(word string) api.Errno {
	for e := range api.Errno(len(words)) {
		if words[e] == word {
			return e
		}
	}
	return api.OK
}
