package prep

import (
	"strings"

	"maskwright/api"
	"maskwright/lex"
)

// blanks are the blanks of this chapter.
const blanks = " \t"

// isLetter reports whether c is a letter, which the underscore is too.
func isLetter(c byte) bool {
	return c >= 'a' && c <= 'z' || c >= 'A' && c <= 'Z' || c == '_'
}

// isDigit reports whether c is a digit.
func isDigit(c byte) bool {
	return c >= '0' && c <= '9'
}

// inName reports whether c is a letter or a digit.
func inName(c byte) bool {
	return isLetter(c) || isDigit(c)
}

// inNumber reports whether c can follow the first digit of a number.
func inNumber(c byte) bool {
	return inName(c) || c == '\''
}

// span returns the number of bytes at the beginning of s that belong together.
func span(s string, belongs func(c byte) bool) int {
	n := 0
	for n < len(s) && belongs(s[n]) {
		n++
	}
	return n
}

// nameOf returns the letter and the letters and digits after it with which s begins, of any number.
func nameOf(s string) string {
	if s == "" || !isLetter(s[0]) {
		return ""
	}
	return s[:span(s, inName)]
}

// isWord reports whether s is the word of a directive.
func isWord(s string) bool {
	switch s {
	case "define", "else", "elsif", "endif", "ifdef", "ifndef", "include", "undef":
		return true
	}
	return false
}

// isMacro reports whether s is the name of a macro.
func isMacro(s string) bool {
	return s != "" && len(s) <= api.MaxName && nameOf(s) == s && !isWord(s)
}

// isBody reports whether all bytes of s can be in the body of a macro.
func isBody(s string) bool {
	return span(s, func(c byte) bool { return c >= ' ' && c <= '~' || c == '\t' }) == len(s)
}

// trim returns s without blanks at both ends.
func trim(s string) string {
	return strings.Trim(s, blanks)
}

// kept returns the size of the kept piece with which s begins; 0 if there is none.
func kept(s string) int {
	switch {
	case s[0] == '"':
		return stringSize(s)
	case s[0] == '\\':
		return quotedSize(s)
	case strings.HasPrefix(s, "//"):
		return len(s)
	}
	return 0
}

// stringSize returns the size of the string with which s begins.
func stringSize(s string) int {
	for i := 1; i < len(s); i++ {
		switch s[i] {
		case '\\':
			i++
		case '"':
			return i + 1
		}
	}
	return len(s)
}

// quotedSize returns the size of the quoted name with which s begins, which is not limited here.
func quotedSize(s string) int {
	n := 1
	for n < len(s) && lex.Quoted(s[n:n+1]) {
		n++
	}
	return n
}

// comment returns how much of s the end of a comment takes, and whether the comment goes on after s.
func comment(s string) (int, bool) {
	const end = "*/"
	at := strings.Index(s, end)
	if at < 0 {
		return len(s), true
	}
	return at + len(end), false
}

// withoutComment returns what stands before a comment `//`, which does not begin within a string.
func withoutComment(s string) string {
	for i := 0; i < len(s); {
		switch {
		case s[i] == '"':
			i += stringSize(s[i:])
		case strings.HasPrefix(s[i:], "//"):
			return s[:i]
		default:
			i++
		}
	}
	return s
}

// directive returns the column of the backquote, the word and the content of a directive; zero values if the line is none.
func directive(line string) (int, string, string) {
	rest := strings.TrimLeft(line, blanks)
	col := len(line) - len(rest) + 1
	rest, marked := strings.CutPrefix(rest, "`")
	word := nameOf(rest)
	if !marked || !isWord(word) {
		return 0, "", ""
	}
	return col, word, trim(withoutComment(rest[len(word):]))
}
