package lex_test

import (
	"slices"
	"strings"
	"testing"

	"maskwright/api"
	"maskwright/lex"
)

// wordsText and signsText are the lists of the document.
const wordsText = "after, always, and, assign, case, casex, casez, cat, check, comb, const, default, delay, downto, else, enum, fall, for, function, if, in, initial, inst, interface, link, log, module, monitor, now, on, or, out, property, rep, repeat, rise, seq, show, signed, size, stop, strobe, struct, then, times, to, unsigned, var, view, wait, while, width, wire, write"
const signsText = "!== === >>> != && +: -> << <= == => >= >> || ! # % & ( ) * + , - . / : ; < = > ? [ ] ^ { | } ~"

// source makes numbers that are the same in each run.
type source struct{ state uint64 }

func (s *source) below(n int) int {
	s.state += 0x9e3779b97f4a7c15
	z := s.state
	z = (z ^ z>>30) * 0xbf58476d1ce4e5b9
	z = (z ^ z>>27) * 0x94d049bb133111eb
	return int((z ^ z>>31) % uint64(n))
}

// bytesOf returns each byte as a text.
func bytesOf() []string {
	var list []string
	for c := range 256 {
		list = append(list, string([]byte{byte(c)}))
	}
	return list
}

func TestKinds(t *testing.T) {
	if lex.End != 0 || lex.Name != 1 || lex.Word != 2 || lex.Number != 3 || lex.String != 4 || lex.Sign != 5 || lex.MaxString != 200 {
		t.Error("constants")
	}
}

// P3.1

func TestWords(t *testing.T) {
	if got, want := lex.Words(), strings.Split(wordsText, ", "); !slices.Equal(got, want) {
		t.Errorf("%q", got)
	}
}

func TestSigns(t *testing.T) {
	if got, want := lex.Signs(), strings.Split(signsText, " "); !slices.Equal(got, want) {
		t.Errorf("%q", got)
	}
}

// Z2: a caller may change what it got.
func TestListsOwnMemory(t *testing.T) {
	for _, f := range []func() []string{lex.Words, lex.Signs} {
		first, want := f(), slices.Clone(f())
		clear(first[:cap(first)])
		if !slices.Equal(f(), want) {
			t.Errorf("%q", f())
		}
	}
	lex.Words()[19] = "a"
	lex.Signs()[0] = "a"
	if lex.Plain("if") || !lex.Plain("a") {
		t.Error("words changed")
	}
	if l, _, _, e := lex.Tokens("if!=="); e != api.OK || len(l) != 3 || l[0].Kind != lex.Word || l[1].Text != "!==" {
		t.Error(l, e)
	}
}

// P3.2

func TestPlain(t *testing.T) {
	for _, s := range []string{
		"a", "z", "A", "Z", "_", "a_1", "A9", "_0", "__", "If", "IF", "iff", "i", "_if", "if_", "if0", "writes", "afte", "zz", "End",
		strings.Repeat("a", 40), "a" + strings.Repeat("9", 39),
	} {
		if !lex.Plain(s) {
			t.Errorf("%q is plain", s)
		}
	}
	for _, s := range []string{
		"", "1", "1a", "0", " ", " a", "a ", "a b", "a.b", "a+", "+", "a\n", "\\a", "a'", "ä", "aä", "\xff", "a\x00", "a[0]", "a-b",
		strings.Repeat("a", 41), strings.Repeat("a", 10000),
	} {
		if lex.Plain(s) {
			t.Errorf("%q is not plain", s)
		}
	}
	for _, s := range strings.Split(wordsText, ", ") {
		if lex.Plain(s) || !lex.Plain(s+"_") || !lex.Plain("_"+s) || !lex.Plain(strings.ToUpper(s)) {
			t.Errorf("%q", s)
		}
	}
}

func TestPlainBytes(t *testing.T) {
	const letters = "abcdefghijklmnopqrstuvwxyzABCDEFGHIJKLMNOPQRSTUVWXYZ_"
	for _, c := range bytesOf() {
		letter, digit := strings.Contains(letters, c), strings.Contains("0123456789", c)
		if lex.Plain(c) != letter || lex.Plain(c+"q") != letter || lex.Plain("q"+c) != (letter || digit) || lex.Plain("q"+c+"q") != (letter || digit) {
			t.Errorf("%q", c)
		}
	}
}

func TestQuoted(t *testing.T) {
	for _, s := range []string{"a", "1+", "if", "!", "~", "(", "#$%&'()*+,-/:;<=>?@^_{|}", "//", "/*", "a_1", strings.Repeat("!", 40)} {
		if !lex.Quoted(s) {
			t.Errorf("%q can be quoted", s)
		}
	}
	for _, s := range []string{"", " ", "a b", "a.b", "[", "]", "\"", "\\", "`", "`a", "a`", "a\t", "a\n", "\x7f", "ä", "\xff", strings.Repeat("!", 41), strings.Repeat("a", 10000)} {
		if lex.Quoted(s) {
			t.Errorf("%q cannot be quoted", s)
		}
	}
	for _, c := range bytesOf() {
		want := c >= "!" && c <= "~" && !strings.Contains(".[]\"\\`", c)
		if lex.Quoted(c) != want || lex.Quoted(c+"q") != want || lex.Quoted("q"+c) != want || lex.Quoted("q"+c+"q") != want {
			t.Errorf("%q", c)
		}
	}
}

// P3.4

func TestQuote(t *testing.T) {
	for s, want := range map[string]string{
		"": `""`, "a": `"a"`, `"`: `"\""`, `\`: `"\\"`, `\"`: `"\\\""`, `"\`: `"\"\\"`, `a"b\c`: `"a\"b\\c"`, `\\`: `"\\\\"`, `""`: `"\"\""`,
		"a\nb\t\x00\xffä": "\"a\nb\t\x00\xffä\"", "`": "\"`\"", "\\n": `"\\n"`,
		strings.Repeat(`\`, 1000): `"` + strings.Repeat(`\`, 2000) + `"`,
	} {
		if got := lex.Quote(s); got != want {
			t.Errorf("%q: %s, want %s", s, got, want)
		}
	}
}

func TestQuoteReadBack(t *testing.T) {
	r := &source{1}
	for range 3000 {
		s := make([]byte, r.below(201))
		for i := range s {
			s[i] = " \"\\a~"[r.below(5)]
		}
		text := lex.Quote(string(s))
		l, _, _, e := lex.Tokens(text)
		if e != api.OK || len(l) != 2 || l[0] != (lex.Token{Kind: lex.String, Line: 1, Col: 1, Text: string(s)}) || l[1].Col != len(text)+1 {
			t.Fatalf("%q: %v %v", s, l, e)
		}
	}
}
