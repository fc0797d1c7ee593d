package lex

import (
	"strconv"
	"strings"

	"maskwright/api"
	"maskwright/bits"
)

// Tokens returns the tokens of a text, with an End at its end; or, with an error, the line and the column of the first byte of what is wrong.
func Tokens(s string) ([]Token, int, int, api.Errno) {
	if len(s) > api.MaxText {
		return nil, 0, 0, api.ErrLarge
	}
	next := reader(s)
	var list []Token
	for {
		t, e := next()
		if e != api.OK {
			return nil, t.Line, t.Col, e
		}
		list = append(list, t)
		if t.Kind == End {
			return list, 0, 0, api.OK
		}
	}
}

// reader returns a function that returns one token of s after the other, then End; with an error, it returns the place of what is wrong in a token.
func reader(s string) func() (Token, api.Errno) {
	place := follow(s)
	at := 0
	return func() (Token, api.Errno) {
		begin, e := skip(s, at)
		t, size := Token{Kind: End}, 0
		if e == api.OK && begin < len(s) {
			t, size, e = scan(s[begin:])
		}
		t.Line, t.Col = place(begin)
		at = begin + size
		return t, e
	}
}

// follow returns a function that returns the line and the column of a byte of s. It is asked for bytes in their order alone, so that it looks at each byte of a text once.
func follow(s string) func(at int) (int, int) {
	line, start, seen := 1, 0, 0
	return func(at int) (int, int) {
		passed := s[seen:at]
		if n := strings.Count(passed, "\n"); n > 0 {
			line += n
			start = seen + strings.LastIndexByte(passed, '\n') + 1
		}
		seen = at
		return line, at - start + 1
	}
}

// skip returns the place of the first byte from at on that neither separates tokens nor belongs to a comment, or that of a comment that does not end.
func skip(s string, at int) (int, api.Errno) {
	for at < len(s) {
		rest := s[at:]
		switch {
		case isBlank(rest[0]):
			at++
		case strings.HasPrefix(rest, "//"):
			at += span(rest, func(c byte) bool { return c != '\n' })
		case strings.HasPrefix(rest, "/*"):
			n := strings.Index(rest[2:], "*/")
			if n < 0 {
				return at, api.ErrShort
			}
			at += n + 4
		default:
			return at, api.OK
		}
	}
	return at, api.OK
}

// scan reads the token with which s begins, which has at least one byte, and returns it without a place, and the number of its bytes.
func scan(s string) (Token, int, api.Errno) {
	switch c := s[0]; {
	case isLetter(c):
		return scanName(s)
	case isDigit(c):
		return scanNumber(s)
	case c == '"':
		return scanString(s)
	case c == '\\':
		return scanQuoted(s)
	}
	return scanSign(s)
}

// scanName reads a name without quotation, or a word.
func scanName(s string) (Token, int, api.Errno) {
	n := span(s, inWord)
	kind := Name
	if isWord(s[:n]) {
		kind = Word
	}
	return Token{Kind: kind, Text: s[:n]}, n, fits(n, api.MaxName)
}

// scanNumber reads a number with or without a width.
func scanNumber(s string) (Token, int, api.Errno) {
	n := span(s, isDigit)
	rest := s[n:]
	switch {
	case strings.HasPrefix(rest, "'"):
		n += 1 + span(rest[1:], inWord)
		v, e := bits.Read(s[:n])
		if e != api.OK {
			return Token{}, 0, e
		}
		return Token{Kind: Number, Num: v, Signed: rest[1] == 's'}, n, api.OK
	case rest != "" && isLetter(rest[0]), s[0] == '0' && n > 1:
		return Token{}, 0, api.ErrSyntax
	}
	// The number is a positive one of 32 bits with a sign, so 31 bits remain; these digits can go wrong in no other way.
	v, err := strconv.ParseUint(s[:n], 10, 31)
	if err != nil {
		return Token{}, 0, api.ErrLarge
	}
	return Token{Kind: Number, Num: bits.Of(32, v), Signed: true}, n, api.OK
}

// scanString reads a string.
func scanString(s string) (Token, int, api.Errno) {
	var content []byte
	for n := 1; n < len(s) && s[n] != '\n'; n++ {
		c := s[n]
		if c == '"' {
			return Token{Kind: String, Text: string(content)}, n + 1, fits(len(content), MaxString)
		}
		if c == '\\' {
			n++
			if n == len(s) {
				break
			}
			c = s[n]
			if c != '"' && c != '\\' {
				return Token{}, 0, api.ErrSyntax
			}
		}
		if c < ' ' || c > '~' {
			return Token{}, 0, api.ErrSyntax
		}
		content = append(content, c)
	}
	return Token{}, 0, api.ErrShort
}

// scanQuoted reads a name after a backslash.
func scanQuoted(s string) (Token, int, api.Errno) {
	n := 1 + span(s[1:], inQuoted)
	if n == 1 || n < len(s) && !isBlank(s[n]) {
		return Token{}, 0, api.ErrSyntax
	}
	return Token{Kind: Name, Text: s[1:n], Quoted: true}, n, fits(n-1, api.MaxName)
}

// scanSign reads a sign.
func scanSign(s string) (Token, int, api.Errno) {
	for _, sign := range signs {
		if strings.HasPrefix(s, sign) {
			return Token{Kind: Sign, Text: sign}, len(sign), api.OK
		}
	}
	return Token{}, 0, api.ErrSyntax
}

// fits returns ErrLarge if there are more bytes than permitted.
func fits(n, most int) api.Errno {
	if n > most {
		return api.ErrLarge
	}
	return api.OK
}
