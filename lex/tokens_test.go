package lex_test

import (
	"regexp"
	"slices"
	"strconv"
	"strings"
	"testing"

	"maskwright/api"
	"maskwright/bits"
	"maskwright/lex"
	"maskwright/note"
)

// short returns tokens without their places, as a text: names as n:, words as w:, numbers as their vector, strings as s:, signs as themselves.
func short(l []lex.Token) string {
	var parts []string
	for _, t := range l {
		p := "?"
		switch {
		case t.Kind == lex.Name && t.Quoted:
			p = "q:" + t.Text
		case t.Kind == lex.Name:
			p = "n:" + t.Text
		case t.Kind == lex.Word:
			p = "w:" + t.Text
		case t.Kind == lex.Number && t.Signed:
			p = "s" + bits.Text(t.Num) + t.Text
		case t.Kind == lex.Number:
			p = "u" + bits.Text(t.Num) + t.Text
		case t.Kind == lex.String:
			p = "s:" + t.Text
		case t.Kind == lex.Sign:
			p = t.Text
		case t == lex.Token{Line: t.Line, Col: t.Col}:
			p = "end"
		}
		if t.Quoted && t.Kind != lex.Name || t.Kind != lex.Number && (t.Signed || t.Num != api.Bits{}) {
			p += "!"
		}
		parts = append(parts, p)
	}
	return strings.Join(parts, " ")
}

// places returns the lines and the columns of tokens.
func places(l []lex.Token) string {
	var parts []string
	for _, t := range l {
		parts = append(parts, strconv.Itoa(t.Line)+":"+strconv.Itoa(t.Col))
	}
	return strings.Join(parts, " ")
}

// P3.3: the tokens.

func TestTokens(t *testing.T) {
	name := strings.Repeat("n", 40)
	zero32 := "s32'b" + strings.Repeat("0", 32)
	for _, x := range []struct{ s, want string }{
		{"", "end"}, {" \t\n ", "end"}, {"//", "end"}, {"/**/", "end"}, {"// /*\n", "end"}, {"/* // */", "end"}, {"/***/", "end"}, {"/*/ */", "end"},
		{"a<=8'sd5;", "n:a <= s8'b00000101 ; end"},
		{"a", "n:a end"}, {"_", "n:_ end"}, {"a1 b_2 _3 Z9", "n:a1 n:b_2 n:_3 n:Z9 end"}, {name, "n:" + name + " end"},
		{"if If iff if1", "w:if n:If n:iff n:if1 end"},
		{"0", zero32 + " end"}, {"0 0", zero32 + " " + zero32 + " end"}, {"10", zero32[:len(zero32)-4] + "1010 end"}, {"2147483647", "s32'b0" + strings.Repeat("1", 31) + " end"},
		{"4'b10xz", "u4'b10xz end"}, {"4'sb10xz", "s4'b10xz end"}, {"8'hf0", "u8'b11110000 end"}, {"1'b1", "u1'b1 end"}, {"3'dx", "u3'bxxx end"}, {"64'd18446744073709551615", "u64'b" + strings.Repeat("1", 64) + " end"},
		{"4'b1+2", "u4'b0001 + " + zero32[:len(zero32)-2] + "10 end"}, {"0;", zero32 + " ; end"}, {"0.", zero32 + " . end"}, {"0\"\"", zero32 + " s: end"}, {"0\\a", zero32 + " q:a end"},
		{`""`, "s: end"}, {`"a b"`, "s:a b end"}, {`"a\"b\\c"`, `s:a"b\c end`}, {`"\\"`, `s:\ end`}, {`"\""`, `s:" end`}, {`"a""b"`, "s:a s:b end"}, {`" ~//"`, "s: ~// end"}, {`"/*"`, "s:/* end"}, {`"\\\\n"`, `s:\\n end`},
		{`\a`, "q:a end"}, {`\if `, "q:if end"}, {"\\a+\tb", "q:a+ n:b end"}, {"\\a\nb", "q:a n:b end"}, {`\a//b c`, "q:a//b n:c end"}, {`\a/*b */`, "q:a/*b * / end"}, {`\12 \;`, "q:12 q:; end"}, {`\` + name, "q:" + name + " end"},
		{"a/b", "n:a / n:b end"}, {"a/ /b", "n:a / / n:b end"}, {"a//b\nc", "n:a n:c end"}, {"a/*\n*/b", "n:a n:b end"}, {"a/**/b", "n:a n:b end"}, {"a/*\"*/\"/*\"", "n:a s:/* end"},
		{"// \xff\x00\r\na", "n:a end"}, {"/*\xff\x00\r*/a", "n:a end"}, {"//a", "end"}, {"/*a*/", "end"}, {"// \"\n/* ' */\"\"", "s: end"},
		{"!===", "!== = end"}, {"====", "=== = end"}, {"!=!", "!= ! end"}, {">>>>", ">>> > end"}, {">>=", ">> = end"}, {">==", ">= = end"}, {"<=>", "<= > end"}, {"=>>", "=> > end"}, {"<<<", "<< < end"}, {"&&&", "&& & end"}, {"|||", "|| | end"},
		{"+:+", "+: + end"}, {"->-", "-> - end"}, {"-:", "- : end"}, {"--", "- - end"}, {"= ==", "= == end"}, {"a[3:0]", "n:a [ " + zero32[:len(zero32)-2] + "11 : " + zero32 + " ] end"}, {"*/", "* / end"}, {"^~", "^ ~ end"},
	} {
		l, line, col, e := lex.Tokens(x.s)
		if got := short(l); e != api.OK || line != 0 || col != 0 || got != x.want {
			t.Errorf("%q: %s, want %s (%d %d %d)", x.s, got, x.want, line, col, e)
		}
	}
}

func TestEverySign(t *testing.T) {
	for _, a := range strings.Split(signsText, " ") {
		if l, _, _, e := lex.Tokens(a); e != api.OK || len(l) != 2 || l[0] != (lex.Token{Kind: lex.Sign, Line: 1, Col: 1, Text: a}) {
			t.Errorf("%s: %v %v", a, l, e)
		}
		for _, b := range strings.Split(signsText, " ") {
			if l, _, _, e := lex.Tokens(a + " " + b); e != api.OK || short(l) != a+" "+b+" end" {
				t.Errorf("%s %s: %v %v", a, b, l, e)
			}
		}
	}
}

func TestEveryWord(t *testing.T) {
	for _, w := range strings.Split(wordsText, ", ") {
		if l, _, _, e := lex.Tokens(w + "\t" + w + "_ \\" + w); e != api.OK || short(l) != "w:"+w+" n:"+w+"_ q:"+w+" end" {
			t.Errorf("%s: %v %v", w, l, e)
		}
	}
}

func TestPlaces(t *testing.T) {
	for _, x := range []struct{ s, want string }{
		{"", "1:1"}, {"a", "1:1 1:2"}, {"a\n", "1:1 2:1"}, {"\n\n", "3:1"}, {" a b", "1:2 1:4 1:5"}, {"\ta\n\tb\n", "1:2 2:2 3:1"},
		{"a//x\nb", "1:1 2:1 2:2"}, {"/*\n\n */a", "3:4 3:5"}, {"/*ä*/a", "1:7 1:8"}, {"\\a\nb\\c ", "1:1 2:1 2:2 2:5"}, {"\"a\\\"\"b", "1:1 1:6 1:7"}, {"12 3'b1", "1:1 1:4 1:8"},
		{"a\n\nb//\n", "1:1 3:1 4:1"}, {"a//", "1:1 1:4"}, {"a /**/", "1:1 1:7"}, {">>>=\n =", "1:1 1:4 2:2 2:3"},
	} {
		l, _, _, e := lex.Tokens(x.s)
		if got := places(l); e != api.OK || got != x.want {
			t.Errorf("%q: %s, want %s", x.s, got, x.want)
		}
	}
}

// P3.3: the errors.

func TestErrors(t *testing.T) {
	long := strings.Repeat("a", 41)
	for _, x := range []struct {
		s         string
		line, col int
		want      api.Errno
	}{
		// Comments.
		{"/*", 1, 1, api.ErrShort}, {"/*/", 1, 1, api.ErrShort}, {"a\n /* b\n*", 2, 2, api.ErrShort}, {"/**/ /* ", 1, 6, api.ErrShort}, {"/* /* */ */ /*", 1, 13, api.ErrShort},
		// Names.
		{long, 1, 1, api.ErrLarge}, {" \n a" + long + "@", 2, 2, api.ErrLarge}, {"@" + long, 1, 1, api.ErrSyntax}, {long + "/*", 1, 1, api.ErrLarge},
		// Numbers.
		{"01", 1, 1, api.ErrSyntax}, {"00", 1, 1, api.ErrSyntax}, {"0a", 1, 1, api.ErrSyntax}, {"1_000", 1, 1, api.ErrSyntax}, {"12a", 1, 1, api.ErrSyntax}, {"1Z", 1, 1, api.ErrSyntax},
		{"2147483648", 1, 1, api.ErrLarge}, {"4294967296", 1, 1, api.ErrLarge}, {"18446744073709551617", 1, 1, api.ErrLarge}, {"1" + strings.Repeat("0", 15000), 1, 1, api.ErrLarge},
		{"99999999999a", 1, 1, api.ErrSyntax}, {"099999999999", 1, 1, api.ErrSyntax}, {"99999999999 a", 1, 1, api.ErrLarge}, {"99999999999'b0", 1, 1, api.ErrRange},
		{"1'", 1, 1, api.ErrSyntax}, {"1'b", 1, 1, api.ErrSyntax}, {"1'sb", 1, 1, api.ErrSyntax}, {"1'Sb1", 1, 1, api.ErrSyntax}, {"8'hF", 1, 1, api.ErrSyntax}, {"1' b1", 1, 1, api.ErrSyntax}, {"4'b2", 1, 1, api.ErrSyntax}, {"4'b1_0", 1, 1, api.ErrSyntax},
		{"8'd256", 1, 1, api.ErrLarge}, {"4'h1f", 1, 1, api.ErrLarge}, {"65'b0", 1, 1, api.ErrRange}, {"08'b0", 1, 1, api.ErrSyntax}, {"0'b0", 1, 1, api.ErrSyntax}, {"1'b1a", 1, 1, api.ErrSyntax}, {"1a'b1", 1, 1, api.ErrSyntax}, {"1'b1'", 1, 5, api.ErrSyntax},
		{"a\n  4'b2 @", 2, 3, api.ErrSyntax},
		// Strings.
		{`"`, 1, 1, api.ErrShort}, {`a "b`, 1, 3, api.ErrShort}, {"\"a\n\"", 1, 1, api.ErrShort}, {`"\`, 1, 1, api.ErrShort}, {`"a\`, 1, 1, api.ErrShort}, {`"\"`, 1, 1, api.ErrShort}, {`"\\\"`, 1, 1, api.ErrShort},
		{"\"\\\n\"", 1, 1, api.ErrSyntax}, {`"\n"`, 1, 1, api.ErrSyntax}, {`"\ "`, 1, 1, api.ErrSyntax}, {"\"\t\"", 1, 1, api.ErrSyntax}, {"\"\x7f\"", 1, 1, api.ErrSyntax}, {"\"\x1f\"", 1, 1, api.ErrSyntax}, {"\"\r\"", 1, 1, api.ErrSyntax}, {"\"ä\"", 1, 1, api.ErrSyntax}, {"\"\\ä\"", 1, 1, api.ErrSyntax},
		{"\"a\t", 1, 1, api.ErrSyntax}, {"\"a\n\t", 1, 1, api.ErrShort}, {"\"\\a\n", 1, 1, api.ErrSyntax}, {"\"\x00", 1, 1, api.ErrSyntax},
		{`"` + strings.Repeat("a", 201) + `"`, 1, 1, api.ErrLarge}, {`"` + strings.Repeat("a", 201), 1, 1, api.ErrShort}, {`"` + strings.Repeat("a", 201) + "\t\"", 1, 1, api.ErrSyntax}, {`"` + strings.Repeat(`\"`, 201) + `"`, 1, 1, api.ErrLarge}, {`"` + strings.Repeat("a", 201) + "\n", 1, 1, api.ErrShort},
		{"a\n\"b\" \"\t\"", 2, 5, api.ErrSyntax},
		// Quoted names.
		{`\`, 1, 1, api.ErrSyntax}, {`\ a`, 1, 1, api.ErrSyntax}, {"\\\n", 1, 1, api.ErrSyntax}, {"\\\t", 1, 1, api.ErrSyntax}, {`\a.b`, 1, 1, api.ErrSyntax}, {`\a\b`, 1, 1, api.ErrSyntax}, {`\a"`, 1, 1, api.ErrSyntax}, {"\\a`", 1, 1, api.ErrSyntax}, {`\a[0]`, 1, 1, api.ErrSyntax}, {`\a]`, 1, 1, api.ErrSyntax}, {"\\a\r", 1, 1, api.ErrSyntax}, {"\\ä", 1, 1, api.ErrSyntax}, {"\\a\x00", 1, 1, api.ErrSyntax}, {`\.`, 1, 1, api.ErrSyntax}, {`\\a`, 1, 1, api.ErrSyntax},
		{`\` + long, 1, 1, api.ErrLarge}, {`\` + long + " ", 1, 1, api.ErrLarge}, {`\` + long + ".", 1, 1, api.ErrSyntax}, {"a \\" + long + "\na", 1, 3, api.ErrLarge},
		// What begins no token.
		{"a @", 1, 3, api.ErrSyntax}, {"'", 1, 1, api.ErrSyntax}, {"$", 1, 1, api.ErrSyntax}, {"`a", 1, 1, api.ErrSyntax}, {"\r\n", 1, 1, api.ErrSyntax}, {"\x00", 1, 1, api.ErrSyntax}, {"\v", 1, 1, api.ErrSyntax}, {"\f", 1, 1, api.ErrSyntax}, {"a\nä", 2, 1, api.ErrSyntax}, {"\x7f", 1, 1, api.ErrSyntax}, {"\xff", 1, 1, api.ErrSyntax}, {"a\u00a0b", 1, 2, api.ErrSyntax},
		// The first of several.
		{"@ /*", 1, 1, api.ErrSyntax}, {"/* @", 1, 1, api.ErrShort}, {"01 @", 1, 1, api.ErrSyntax}, {"65'b0 01", 1, 1, api.ErrRange}, {"// @\n@", 2, 1, api.ErrSyntax},
	} {
		l, line, col, e := lex.Tokens(x.s)
		if e != x.want || line != x.line || col != x.col || l != nil {
			t.Errorf("%.60q: %d:%d %d, want %d:%d %d", x.s, line, col, e, x.line, x.col, x.want)
		}
	}
}

func TestLimits(t *testing.T) {
	for _, x := range []struct {
		s    string
		want lex.Token
	}{
		{`"` + strings.Repeat("a", 200) + `"`, lex.Token{Kind: lex.String, Text: strings.Repeat("a", 200)}},
		{`"` + strings.Repeat(`\"`, 200) + `"`, lex.Token{Kind: lex.String, Text: strings.Repeat(`"`, 200)}},
		{`"` + strings.Repeat(`\\`, 200) + `"`, lex.Token{Kind: lex.String, Text: strings.Repeat(`\`, 200)}},
		{strings.Repeat("if", 20), lex.Token{Kind: lex.Name, Text: strings.Repeat("if", 20)}},
		{`\` + strings.Repeat("+", 40), lex.Token{Kind: lex.Name, Text: strings.Repeat("+", 40), Quoted: true}},
	} {
		x.want.Line, x.want.Col = 1, 1
		end := lex.Token{Kind: lex.End, Line: 1, Col: len(x.s) + 1}
		if l, _, _, e := lex.Tokens(x.s); e != api.OK || !slices.Equal(l, []lex.Token{x.want, end}) {
			t.Errorf("%s: %v %d", x.s, l, e)
		}
	}
}

func TestSize(t *testing.T) {
	if l, line, col, e := lex.Tokens(strings.Repeat("+", api.MaxText)); e != api.OK || len(l) != api.MaxText+1 || line != 0 || col != 0 || l[api.MaxText].Col != api.MaxText+1 {
		t.Error(len(l), line, col, e)
	}
	if l, _, _, e := lex.Tokens(strings.Repeat("\n", api.MaxText)); e != api.OK || len(l) != 1 || l[0].Line != api.MaxText+1 || l[0].Col != 1 {
		t.Error(l, e)
	}
	// The size of the text comes before all other errors.
	for _, s := range []string{"+", "@", "/*", "\"", " "} {
		if l, line, col, e := lex.Tokens(strings.Repeat(s, api.MaxText+1)); e != api.ErrLarge || l != nil || line != 0 || col != 0 {
			t.Error(s, line, col, e)
		}
	}
}

// The model reads tokens by regular expressions.

var (
	gapForm    = regexp.MustCompile(`^(?:[ \t\n]|//[^\n]*|(?s:/\*.*?\*/))+`)
	nameForm   = regexp.MustCompile(`^[A-Za-z_][A-Za-z_0-9]*`)
	numberForm = regexp.MustCompile(`^[0-9]+(?:'[A-Za-z_0-9]*)?`)
	plainForm  = regexp.MustCompile(`^(?:0|[1-9][0-9]*)$`)
	stringForm = regexp.MustCompile(`^"((?:[ !#-\[\]-~]|\\["\\])*)"`)
	openForm   = regexp.MustCompile(`^"(?:[ !#-\[\]-~]|\\["\\])*(?:\n|\\?$)`)
	quotedForm = regexp.MustCompile("^\\\\([!#-\\-/-Z^_a-~]+)(?:[ \\t\\n]|$)")
	signForm   = regexp.MustCompile(`^(?:!==|===|>>>|!=|&&|\+:|->|<<|<=|==|=>|>=|>>|\|\||[!#%&()*+,\-./:;<=>?\[\]^{|}~])`)
)

// modelToken returns the token with which s begins, and its length.
func modelToken(s string) (lex.Token, int, api.Errno) {
	if strings.HasPrefix(s, "/*") {
		return lex.Token{}, 0, api.ErrShort
	}
	if m := nameForm.FindString(s); m != "" {
		switch {
		case len(m) > 40:
			return lex.Token{}, 0, api.ErrLarge
		case strings.Contains(", "+wordsText+",", ", "+m+","):
			return lex.Token{Kind: lex.Word, Text: m}, len(m), api.OK
		}
		return lex.Token{Kind: lex.Name, Text: m}, len(m), api.OK
	}
	if m := numberForm.FindString(s); m != "" {
		return modelNumber(m, len(nameForm.FindString(s[len(m):])) > 0)
	}
	if m := stringForm.FindStringSubmatch(s); m != nil {
		text := strings.ReplaceAll(strings.ReplaceAll(strings.ReplaceAll(m[1], `\\`, "\x00"), `\"`, `"`), "\x00", `\`)
		if len(text) > 200 {
			return lex.Token{}, 0, api.ErrLarge
		}
		return lex.Token{Kind: lex.String, Text: text}, len(m[0]), api.OK
	}
	if openForm.MatchString(s) {
		return lex.Token{}, 0, api.ErrShort
	}
	if m := quotedForm.FindStringSubmatch(s); m != nil {
		if len(m[1]) > 40 {
			return lex.Token{}, 0, api.ErrLarge
		}
		return lex.Token{Kind: lex.Name, Text: m[1], Quoted: true}, 1 + len(m[1]), api.OK
	}
	if m := signForm.FindString(s); m != "" {
		return lex.Token{Kind: lex.Sign, Text: m}, len(m), api.OK
	}
	return lex.Token{}, 0, api.ErrSyntax
}

// modelNumber returns the token that is the number s, after which a letter stands or not.
func modelNumber(s string, letter bool) (lex.Token, int, api.Errno) {
	if _, after, ok := strings.Cut(s, "'"); ok {
		v, e := bits.Read(s)
		return lex.Token{Kind: lex.Number, Num: v, Signed: strings.HasPrefix(after, "s")}, len(s), e
	}
	if letter || !plainForm.MatchString(s) {
		return lex.Token{}, 0, api.ErrSyntax
	}
	v, err := strconv.Atoi(s)
	if err != nil || v > 1<<31-1 {
		return lex.Token{}, 0, api.ErrLarge
	}
	return lex.Token{Kind: lex.Number, Num: api.Bits{W: 32, V: uint64(v)}, Signed: true}, len(s), api.OK
}

// model returns what Tokens must return for s.
func model(s string) ([]lex.Token, int, int, api.Errno) {
	var l []lex.Token
	at := 0
	for {
		at += len(gapForm.FindString(s[at:]))
		line, col := note.Place(s, at)
		if at == len(s) {
			return append(l, lex.Token{Kind: lex.End, Line: line, Col: col}), 0, 0, api.OK
		}
		t, n, e := modelToken(s[at:])
		if e != api.OK {
			return nil, line, col, e
		}
		t.Line, t.Col = line, col
		l = append(l, t)
		at += n
	}
}

// compare checks Tokens for one text, and returns its error.
func compare(t *testing.T, s string) api.Errno {
	t.Helper()
	l, line, col, e := lex.Tokens(s)
	wantL, wantLine, wantCol, want := model(s)
	if e != want || line != wantLine || col != wantCol || !slices.Equal(l, wantL) {
		t.Fatalf("%q: %s at %s, %d:%d %d, want %s at %s, %d:%d %d", s, short(l), places(l), line, col, e, short(wantL), places(wantL), wantLine, wantCol, want)
	}
	return e
}

// pieces returns what texts of tokens are made of; those after the first good ones can be wrong.
func pieces() (list []string, good int) {
	list = append(strings.Split(wordsText, ", "), strings.Split(signsText, " ")...)
	list = append(list, "a", "b1", "_", "Abc", "0 ", "7 ", "42\n", "2147483647 ", "4'b10", "8'sd5", "3'bxz", "64'hffff", "16'so17", "\"\"", "\"a\\\"\\\\b\"", "\\if ", "\\a+b\t", "\\1\n", "// c\n", "//\n", "/* c\n */", "/**/", " ", " ", "\t", "\n", "\n\n")
	good = len(list)
	list = append(list, "'", "\"", "\\", "/*", "*/", "//", "@", "`", "\x00", "\xff", "ä", "\r", "012 ", "2147483648 ", "4'b2", "9'd512", "65'b1", "\\a.b ", "\"\t\"", "x", "s", "9", strings.Repeat("n", 41), "\""+strings.Repeat("s", 201)+"\"", "\\"+strings.Repeat("q", 41)+" ")
	return list, good
}

func TestAgainstModel(t *testing.T) {
	r := &source{2}
	list, good := pieces()
	seen := map[api.Errno]int{}
	for range 60000 {
		var b strings.Builder
		bad := r.below(12)
		for i := range r.below(12) {
			if i == bad {
				b.WriteString(list[r.below(len(list))])
			} else {
				b.WriteString(list[r.below(good)])
				b.WriteString([]string{"", " ", "\n"}[r.below(3)])
			}
		}
		seen[compare(t, b.String())]++
	}
	for _, e := range []api.Errno{api.OK, api.ErrRange, api.ErrLarge, api.ErrSyntax, api.ErrShort} {
		if seen[e] < 20 {
			t.Error(e, seen[e])
		}
	}
}

func TestAgainstModelOfBytes(t *testing.T) {
	r := &source{3}
	const few = "a'0b1\"\\/*\n +=s.@"
	for range 60000 {
		s := make([]byte, r.below(9))
		for i := range s {
			s[i] = few[r.below(len(few))]
		}
		compare(t, string(s))
	}
	for _, a := range bytesOf() {
		compare(t, a)
		for _, b := range bytesOf() {
			compare(t, a+b)
		}
		for _, form := range []string{"a?b", "\"?\"", "\"\\?\"", "\\a?b ", "\\a?", "1?1", "1'b1?", "1'?1", "//?\n", "/*?*/", "/?/"} {
			compare(t, strings.Replace(form, "?", a, 1))
		}
	}
}

// Z1, Z2: whatever the text is, two calls have the same result, and what a caller changes in one is not seen in another.
func TestOwnMemory(t *testing.T) {
	first, _, _, _ := lex.Tokens("a 1 \"s\"")
	second, _, _, _ := lex.Tokens("a 1 \"s\"")
	clear(first[:cap(first)])
	if short(second) != "n:a s32'b00000000000000000000000000000001 s:s end" {
		t.Error(short(second))
	}
}
