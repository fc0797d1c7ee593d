package note_test

import (
	"math"
	"strconv"
	"strings"
	"testing"

	"maskwright/api"
	"maskwright/note"
)

// P2.4

func TestText(t *testing.T) {
	for want, n := range map[string]api.Note{
		"a.mw:3:7: unknown cnt":     base(),
		"a.mw:3:7: unknown":         {File: "a.mw", Line: 3, Col: 7, Code: api.ErrNone},
		"!:1:1: argument  ":         {File: "!", Line: 1, Col: 1, Code: api.ErrArg, Text: " "},
		"~:16000:16001: rule a : b": {File: "~", Line: 16000, Col: 16001, Code: api.ErrRule, Text: "a : b"},
		"x:10:200: constant  a ":    {File: "x", Line: 10, Col: 200, Code: api.ErrConst, Text: " a "},
		"x:1:2: large rule":         {File: "x", Line: 1, Col: 2, Code: api.ErrLarge, Text: "rule"},
	} {
		if got, e := note.Text(n); e != api.OK || got != want {
			t.Errorf("%+v: %q %d, want %q", n, got, e, want)
		}
		if got, e := note.Read(want); e != api.OK || got != n {
			t.Errorf("%q: %+v %d, want %+v", want, got, e, n)
		}
	}
	for e, word := range names() {
		n := base()
		n.Code = e
		want := "a.mw:3:7: " + word + " cnt"
		if got, e := note.Text(n); e != api.OK || got != want {
			t.Errorf("%+v: %q %d, want %q", n, got, e, want)
		}
	}
}

func TestTextOfBad(t *testing.T) {
	for _, c := range []struct {
		n    api.Note
		want api.Errno
	}{
		{api.Note{}, api.ErrName},
		{api.Note{File: "a:", Line: 1, Col: 1, Code: 1}, api.ErrName},
		{api.Note{File: "a", Line: 1, Col: 1}, api.ErrRange},
		{api.Note{File: "a", Line: 16001, Col: 1, Code: 1}, api.ErrRange},
		{api.Note{File: "a", Line: 1, Col: 16002, Code: 1, Text: "\t"}, api.ErrRange},
		{api.Note{File: "a", Line: 1, Col: 1, Code: 1, Text: "\t"}, api.ErrForm},
	} {
		if s, e := note.Text(c.n); e != c.want || s != "" {
			t.Errorf("%+v: %q %d, want %d", c.n, s, e, c.want)
		}
	}
}

func TestReadForm(t *testing.T) {
	for _, s := range []string{
		"", ":", "::", ":::", "a", "a:", "a:1", "a:1:", "a:1:1", "a:1:1:", "a:1:1: ", "a:1:1:  ", "a:1:1:syntax", "a:1:1 syntax", "a:1: syntax",
		"a:1:1:  syntax", "a:1:1:\tsyntax", "a:1:1: syntax ", "a:1:1: what", "a:1:1: what x", "a:1:1: Syntax", "a:1:1: synta", "a:1:1: syntaxx", "a:1:1: syntax\n",
		"a:1:1: syntax\tx", "a:1:1:: syntax", "a:b:1:1: syntax", "a::1: syntax", "a:1:: syntax",
		"a:01:1: syntax", "a:1:01: syntax", "a:00:1: syntax", "a:1:00: syntax", "a:+1:1: syntax", "a:1:-1: syntax", "a:-1:1: syntax", "a:1:+1: syntax", "a:-0:1: syntax",
		"a:1_0:1: syntax", "a:1:0x1: syntax", "a:1:1.: syntax", "a: 1:1: syntax", "a:1 :1: syntax", "a:1: 1: syntax", "a:1:1 : syntax", "a:a:1: syntax", "a:1:a: syntax", "a:1/:1: syntax",
		"a:1:1: ok", "a:1:1: OK", "a:1:1: 10", "a:1:1: 10 x", "a:1:1:  x",
		// The form is checked first.
		":1:1: what", ":01:1: syntax", "a b:0:x: syntax", "a:0:1: syntax ", "a:99999:1: what \n", "\":0:0:syntax \n",
	} {
		if n, e := note.Read(s); e != api.ErrSyntax || n != (api.Note{}) {
			t.Errorf("%q: %+v %d", s, n, e)
		}
	}
}

func TestReadBad(t *testing.T) {
	long := strings.Repeat("9", 500)
	for s, want := range map[string]api.Errno{
		":1:1: syntax":                                api.ErrName,
		" :1:1: syntax":                               api.ErrName,
		"a b:1:1: syntax":                             api.ErrName,
		"\"a\":1:1: syntax":                           api.ErrName,
		"\n:0:0: syntax \n":                           api.ErrName,
		strings.Repeat("a", 61) + ":1:1: syntax":      api.ErrName,
		strings.Repeat("a", 60) + ":1:1: syntax":      api.OK,
		"a:0:1: syntax":                               api.ErrRange,
		"a:1:0: syntax":                               api.ErrRange,
		"a:0:0: syntax \n":                            api.ErrRange,
		"a:16000:16001: syntax":                       api.OK,
		"a:16001:1: syntax":                           api.ErrRange,
		"a:1:16002: syntax":                           api.ErrRange,
		"a:100000:1: syntax \n":                       api.ErrRange,
		"a:18446744073709551617:1: syntax":            api.ErrRange, // 1, but for 2 to the power of 64
		"a:1:9223372036854775809: syntax":             api.ErrRange,
		"a:" + long + ":1: syntax":                    api.ErrRange,
		"a:1:" + long + ": syntax":                    api.ErrRange,
		":" + long + ":1: syntax":                     api.ErrName,
		"a:1:1: syntax \n":                            api.ErrForm,
		"a:1:1: syntax a\x7f":                         api.ErrForm,
		"a:1:1: syntax é":                             api.ErrForm,
		"a:1:1: syntax " + strings.Repeat("x", 200):   api.OK,
		"a:1:1: syntax " + strings.Repeat("x", 201):   api.ErrForm,
		"a:1:1: syntax " + strings.Repeat("x", 20000): api.ErrForm,
	} {
		if n, e := note.Read(s); e != want || e != api.OK && n != (api.Note{}) {
			t.Errorf("%.40q: %+v %d, want %d", s, n, e, want)
		}
	}
}

// P2.6

func TestReadBack(t *testing.T) {
	s := source{2}
	word := func(lo, hi byte, most int) string {
		b := make([]byte, s.below(most+1))
		for i := range b {
			b[i] = lo + byte(s.below(int(hi-lo)+1))
		}
		return string(b)
	}
	good := 0
	for range 20000 {
		n := api.Note{
			File: word('!', '~', 20),
			Line: 1 + s.below(api.MaxText), Col: 1 + s.below(api.MaxText+1),
			Code: api.Errno(1 + s.below(22)), Text: word(' ', '~', 20),
		}
		text, e := note.Text(n)
		if e != note.Check(n) {
			t.Fatalf("%+v: %d", n, e)
		}
		if e != api.OK {
			continue
		}
		good++
		if m, e := note.Read(text); e != api.OK || m != n {
			t.Errorf("%q: %+v %d, want %+v", text, m, e, n)
		}
	}
	if good < 10000 {
		t.Error(good)
	}
}

// Every text that can be read is the one that the message has.
func TestTextOfRead(t *testing.T) {
	for line := -1; line < 12; line++ {
		for _, file := range []string{"", "a", "a b", ":"} {
			for _, sep := range []string{":", ": ", "", " "} {
				for _, word := range []string{"", "sum", "sum ", "sum x", "sum  ", " sum", "no"} {
					s := file + ":" + strconv.Itoa(line) + sep + "2:" + sep + word
					n, e := note.Read(s)
					if e != api.OK {
						continue
					}
					if text, e := note.Text(n); e != api.OK || text != s {
						t.Errorf("%q: %q", s, text)
					}
				}
			}
		}
	}
}

// Z1

func TestNoPanic(t *testing.T) {
	numbers := []int{math.MinInt, -1, 0, 1, 22, 23, 16000, 16001, 16002, math.MaxInt}
	texts := []string{"", "a", ":", "\x00", "\xff\xfe", "a:1:1: syntax", strings.Repeat("1", 1000)}
	for _, a := range numbers {
		for _, b := range numbers {
			for _, c := range numbers {
				for _, s := range texts {
					for _, r := range texts {
						n := api.Note{File: s, Line: a, Col: b, Code: api.Errno(c), Text: r}
						text, e := note.Text(n)
						if e != note.Check(n) || (e == api.OK) != (text != "") {
							t.Errorf("%+v: %q %d", n, text, e)
						}
						note.Cmp(n, base())
						note.Sort([]api.Note{n, base(), n})
					}
				}
			}
		}
	}
	for _, s := range texts {
		note.File(s)
		note.Read(s)
		for _, a := range numbers {
			note.Place(s, a)
		}
	}
}
