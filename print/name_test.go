package print_test

import (
	"strings"
	"testing"

	"maskwright/lex"
	"maskwright/print"
)

// P7.1

func TestName(t *testing.T) {
	n40, n41 := strings.Repeat("n", 40), strings.Repeat("n", 41)
	for s, want := range map[string]string{
		"a": "a", "A_9": "A_9", "_": "_", "rises": "rises", "If": "If", n40: n40,
		"if": `\if `, "now": `\now `, "write": `\write `, "9a": `\9a `, "a-b": `\a-b `, "a'b": `\a'b `, "//": `\// `,
		"": `\ `, "a b": `\a b `, "a.b": `\a.b `, `\`: `\\ `, `"`: `\" `, "\n": "\\\n ", "a\x00": "\\a\x00 ", "é": `\é `, "\xff": "\\\xff ", n41: `\` + n41 + " ",
	} {
		if got := print.Name(s); got != want {
			t.Errorf("%q: %q instead of %q", s, got, want)
		}
	}
	for _, s := range lex.Words() {
		if got := print.Name(s); got != `\`+s+` ` {
			t.Errorf("%q: %q", s, got)
		}
	}
}

// The text of each name of one or two bytes is a token with this name.
func TestNamesAreRead(t *testing.T) {
	seen := 0
	for i := range 256 * 257 {
		s := string([]byte{byte(i)})
		if i >= 256 {
			s += string([]byte{byte(i/256 - 1)})
		}
		got := print.Name(s)
		if got != modelName(s) {
			t.Errorf("%q: %q instead of %q", s, got, modelName(s))
		}
		if !lex.Quoted(s) {
			continue
		}
		l, _, _, e := lex.Tokens(got + "(")
		if e != 0 || len(l) != 3 || l[0].Kind != lex.Name || l[0].Text != s || l[1].Text != "(" {
			t.Errorf("%q: %q is %v %v", s, got, l, e)
		}
		seen++
	}
	if seen != 88+88*88 {
		t.Error(seen)
	}
}
