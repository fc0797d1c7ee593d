package note_test

import (
	"math"
	"slices"
	"strings"
	"testing"

	"maskwright/api"
	"maskwright/note"
)

// source makes numbers that are the same in each run.
type source struct{ state uint64 }

func (s *source) below(n int) int {
	s.state += 0x9e3779b97f4a7c15
	z := s.state
	z = (z ^ z>>30) * 0xbf58476d1ce4e5b9
	z = (z ^ z>>27) * 0x94d049bb133111eb
	return int((z ^ z>>31) % uint64(n))
}

// names returns the word for each error code, as the document lists them.
func names() map[api.Errno]string {
	return map[api.Errno]string{
		api.ErrArg: "argument", api.ErrRange: "range", api.ErrLarge: "large", api.ErrForm: "form", api.ErrOrder: "order",
		api.ErrTwice: "twice", api.ErrNone: "unknown", api.ErrType: "type", api.ErrName: "name", api.ErrSyntax: "syntax",
		api.ErrShort: "short", api.ErrSum: "sum", api.ErrState: "state", api.ErrFull: "full", api.ErrClash: "clash",
		api.ErrLost: "lost", api.ErrLoop: "loop", api.ErrOpen: "open", api.ErrConst: "constant", api.ErrWidth: "width",
		api.ErrTime: "time", api.ErrRule: "rule",
	}
}

// base returns a valid message.
func base() api.Note {
	return api.Note{File: "a.mw", Line: 3, Col: 7, Code: api.ErrNone, Text: "cnt"}
}

// P2.1

func TestLimits(t *testing.T) {
	if note.Max != 20 || note.MaxFile != 60 || note.MaxWord != 200 {
		t.Error(note.Max, note.MaxFile, note.MaxWord)
	}
}

func TestFile(t *testing.T) {
	for _, s := range []string{"a", "a.mw", "!", "~", "../x/y.mw", "#'", strings.Repeat("a", 60)} {
		if !note.File(s) {
			t.Errorf("%q is a name", s)
		}
	}
	for _, s := range []string{"", " ", "a b", ":", "a:", ":a", "a:b", "\"", "a\"", "a\n", "\x00", "ä", "a\x7f", "a\xff", strings.Repeat("a", 61), strings.Repeat("a", 1000)} {
		if note.File(s) {
			t.Errorf("%q is no name", s)
		}
	}
	for c := range 256 {
		want := c >= '!' && c <= '~' && c != ':' && c != '"'
		for _, s := range []string{string([]byte{byte(c)}), "a" + string([]byte{byte(c)}), string([]byte{byte(c)}) + "a"} {
			if note.File(s) != want {
				t.Errorf("%q: %v", s, !want)
			}
		}
	}
}

func TestName(t *testing.T) {
	words := names()
	if len(words) != 22 {
		t.Fatal(len(words))
	}
	for e := api.Errno(-50); e < 100; e++ {
		if got := note.Name(e); got != words[e] {
			t.Errorf("%d: %q, want %q", e, got, words[e])
		}
	}
	for _, e := range []api.Errno{math.MinInt, math.MinInt + 5, math.MaxInt, 1 << 32, 1<<32 + 1, -1 << 32} {
		if got := note.Name(e); got != "" {
			t.Errorf("%d: %q", e, got)
		}
	}
}

// P2.2

func TestCheck(t *testing.T) {
	for name, c := range map[string]struct {
		change func(n *api.Note)
		want   api.Errno
	}{
		"ordinary":      {func(*api.Note) {}, api.OK},
		"no file":       {func(n *api.Note) { n.File = "" }, api.ErrName},
		"bad file":      {func(n *api.Note) { n.File = "a:b" }, api.ErrName},
		"long file":     {func(n *api.Note) { n.File = strings.Repeat("f", 61) }, api.ErrName},
		"longest file":  {func(n *api.Note) { n.File = strings.Repeat("f", 60) }, api.OK},
		"line 0":        {func(n *api.Note) { n.Line = 0 }, api.ErrRange},
		"line -1":       {func(n *api.Note) { n.Line = -1 }, api.ErrRange},
		"line 1":        {func(n *api.Note) { n.Line = 1 }, api.OK},
		"last line":     {func(n *api.Note) { n.Line = api.MaxText }, api.OK},
		"line above":    {func(n *api.Note) { n.Line = api.MaxText + 1 }, api.ErrRange},
		"column 0":      {func(n *api.Note) { n.Col = 0 }, api.ErrRange},
		"column -1":     {func(n *api.Note) { n.Col = math.MinInt }, api.ErrRange},
		"column 1":      {func(n *api.Note) { n.Col = 1 }, api.OK},
		"last column":   {func(n *api.Note) { n.Col = api.MaxText + 1 }, api.OK},
		"column above":  {func(n *api.Note) { n.Col = api.MaxText + 2 }, api.ErrRange},
		"code OK":       {func(n *api.Note) { n.Code = api.OK }, api.ErrRange},
		"code -1":       {func(n *api.Note) { n.Code = -1 }, api.ErrRange},
		"first code":    {func(n *api.Note) { n.Code = api.ErrArg }, api.OK},
		"last code":     {func(n *api.Note) { n.Code = api.ErrRule }, api.OK},
		"code above":    {func(n *api.Note) { n.Code = api.ErrRule + 1 }, api.ErrRange},
		"no text":       {func(n *api.Note) { n.Text = "" }, api.OK},
		"blank":         {func(n *api.Note) { n.Text = " " }, api.OK},
		"all sorts":     {func(n *api.Note) { n.Text = " a:\"b\"~ " }, api.OK},
		"line feed":     {func(n *api.Note) { n.Text = "a\n" }, api.ErrForm},
		"tab":           {func(n *api.Note) { n.Text = "\ta" }, api.ErrForm},
		"below blank":   {func(n *api.Note) { n.Text = "a\x1fb" }, api.ErrForm},
		"above tilde":   {func(n *api.Note) { n.Text = "a\x7fb" }, api.ErrForm},
		"letter":        {func(n *api.Note) { n.Text = "ä" }, api.ErrForm},
		"longest text":  {func(n *api.Note) { n.Text = strings.Repeat("t", 200) }, api.OK},
		"long text":     {func(n *api.Note) { n.Text = strings.Repeat("t", 201) }, api.ErrForm},
		"nothing":       {func(n *api.Note) { *n = api.Note{} }, api.ErrName},
		"file and line": {func(n *api.Note) { n.File, n.Line, n.Text = " ", 0, "\n" }, api.ErrName},
		"line and text": {func(n *api.Note) { n.Line, n.Text = 0, "\n" }, api.ErrRange},
		"code and text": {func(n *api.Note) { n.Code, n.Text = 23, "\n" }, api.ErrRange},
		"file and text": {func(n *api.Note) { n.File, n.Text = "", "\n" }, api.ErrName},
	} {
		n := base()
		c.change(&n)
		if e := note.Check(n); e != c.want {
			t.Errorf("%s: %d, want %d", name, e, c.want)
		}
	}
}

// P2.3

// rising returns messages of which each is smaller than the next one.
func rising() []api.Note {
	return []api.Note{
		{Line: math.MinInt, Col: math.MaxInt, Code: api.ErrRule, Text: "z"},
		{Line: math.MaxInt, Col: math.MinInt, Code: -5},
		{File: "\x00"},
		{File: "A", Line: 9},
		{File: "a", Line: -1, Col: 5, Code: 5, Text: "b"},
		{File: "a", Line: 1, Col: 2, Code: 3, Text: "b"},
		{File: "a", Line: 1, Col: 3, Code: 2, Text: "b"},
		{File: "a", Line: 1, Col: 3, Code: 3},
		{File: "a", Line: 1, Col: 3, Code: 3, Text: "Z"},
		{File: "a", Line: 1, Col: 3, Code: 3, Text: "a"},
		{File: "a", Line: 1, Col: 3, Code: 3, Text: "aa"},
		{File: "a", Line: 1, Col: 3, Code: 3, Text: "b"},
		{File: "a", Line: 1, Col: 3, Code: 3, Text: "b\x7f"},
		{File: "a", Line: 1, Col: 3, Code: 3, Text: "b\xff"},
		{File: "a", Line: 1, Col: 3, Code: math.MaxInt},
		{File: "a", Line: 1, Col: 10, Code: 2},
		{File: "a", Line: 10, Col: 2, Code: 2},
		{File: "a0", Line: 2, Col: 2, Code: 2},
		{File: "b", Line: 2, Col: 2, Code: 2},
		{File: "é", Line: 1, Col: 1, Code: 1},
		{File: "\xff", Line: 1, Col: 1, Code: 1},
	}
}

func TestCmp(t *testing.T) {
	list := rising()
	for i, a := range list {
		for j, b := range list {
			want := 0
			if i < j {
				want = -1
			} else if i > j {
				want = 1
			}
			if got := note.Cmp(a, b); got != want {
				t.Errorf("%+v %+v: %d, want %d", a, b, got, want)
			}
		}
	}
}

func TestSortSmall(t *testing.T) {
	list := rising()[1:]
	if len(list) != note.Max {
		t.Fatal(len(list))
	}
	s := source{1}
	for range 200 {
		var mixed []api.Note
		var chosen [note.Max]bool
		for range s.below(60) {
			i := s.below(len(list))
			mixed = append(mixed, list[i])
			chosen[i] = true
		}
		var want []api.Note
		for i, n := range list {
			if chosen[i] {
				want = append(want, n)
			}
		}
		if got := note.Sort(mixed); !slices.Equal(got, want) {
			t.Errorf("%+v: %+v, want %+v", mixed, got, want)
		}
	}
}

func TestSortMany(t *testing.T) {
	for _, n := range []int{19, 20, 21, 500} {
		var list, want []api.Note
		for i := range n {
			m := base()
			m.Line = i*11%n + 1 // each line once, since 11 divides none of the lengths
			list = append(list, m, m)
		}
		for i := range min(n, 20) {
			m := base()
			m.Line = i + 1
			want = append(want, m)
		}
		if got := note.Sort(list); !slices.Equal(got, want) {
			t.Errorf("%d: %+v", n, got)
		}
	}
	same := slices.Repeat([]api.Note{base()}, 100)
	if got := note.Sort(same); !slices.Equal(got, []api.Note{base()}) {
		t.Error(got)
	}
}

func TestSortNothing(t *testing.T) {
	if len(note.Sort(nil)) != 0 || len(note.Sort([]api.Note{})) != 0 {
		t.Error("messages of nothing")
	}
}

// Z2

func TestSortOwnMemory(t *testing.T) {
	list := rising()
	slices.Reverse(list)
	before := slices.Clone(list)
	got := note.Sort(list[:10])
	want := slices.Clone(got)
	again := note.Sort(list[:10])
	for i := range got[:cap(got)] {
		got[:cap(got)][i] = api.Note{File: "changed"}
	}
	if !slices.Equal(list, before) {
		t.Error("the argument has changed")
	}
	if !slices.Equal(again, want) {
		t.Error("another result has changed")
	}
	for i := range list {
		list[i] = api.Note{}
	}
	if !slices.Equal(again, want) {
		t.Error("the argument was kept")
	}
}

// P2.5

func TestPlace(t *testing.T) {
	for _, s := range []string{"", "a", "\n", "\n\n", "ab\n\nc", "ab\ncd\n", "\r\nä\n\x00", strings.Repeat("ab\n", 10000)} {
		line, col := 1, 1
		for at := range len(s) + 1 {
			if len(s) > 100 && at%997 != 0 && at < len(s)-5 {
				// few places of a long text alone
			} else if l, c := note.Place(s, at); l != line || c != col {
				t.Errorf("%.20q %d: %d %d, want %d %d", s, at, l, c, line, col)
			}
			col++
			if at < len(s) && s[at] == '\n' {
				line, col = line+1, 1
			}
		}
		for _, at := range []int{math.MinInt, -2, -1, len(s) + 1, len(s) + 2, math.MaxInt} {
			if l, c := note.Place(s, at); l != 0 || c != 0 {
				t.Errorf("%.20q %d: %d %d", s, at, l, c)
			}
		}
	}
}
