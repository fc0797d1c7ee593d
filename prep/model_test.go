package prep_test

import (
	"maps"
	"math/rand"
	"regexp"
	"slices"
	"strings"
	"testing"

	"maskwright/api"
	"maskwright/note"
	"maskwright/prep"
)

// The model works with regular expressions, and without limits of sizes. Its texts have bytes from the blank to `~`, tabs and line feeds alone.

const (
	stringForm  = `"(?:[^"\\]|\\.)*(?:"|\\?$)`
	quotedForm  = "\\\\[!#-\\-/-Z^_a-~]*"
	keptForm    = "(?:" + stringForm + "|" + quotedForm + "|//.*)"
	commentForm = `/\*(?:.*?\*/|.*)`
	nameForm    = "[a-zA-Z_][a-zA-Z0-9_]*"
	words       = "(?:define|else|elsif|endif|ifdef|ifndef|include|undef)"
)

var (
	directiveLine = regexp.MustCompile("^[ \t]*(`)(" + words + ")(?:$|([^a-zA-Z0-9_].*)$)")
	beforeComment = regexp.MustCompile("^(?:" + stringForm + "|/$|/[^/\"]|[^\"/]|/(?:" + stringForm + "))*")
	lineParts     = regexp.MustCompile("^(?:(" + commentForm + ")|" + keptForm + "|(`(?:" + nameForm + ")?)|.)")
	textParts     = regexp.MustCompile("^(?:(" + keptForm + ")|(`(?:" + nameForm + ")?)|.)")
	bodyParts     = regexp.MustCompile(keptForm + "|[0-9][a-zA-Z0-9_']*|" + nameForm + "|.")
	wholeName     = regexp.MustCompile("^" + nameForm + "$")
	wholeWord     = regexp.MustCompile("^" + words + "$")
	definition    = regexp.MustCompile("^(" + nameForm + `)(?:\(([^)]*)(\)?)|)(.*)$`)
	fileForm      = regexp.MustCompile(`^"([!#-9;-~]{1,60})"$`)
)

type modelMacro struct {
	params []string
	body   string
}

type model struct {
	files  map[string]string
	open   []string
	macros map[string]modelMacro
	lines  []prep.Origin
	text   string
	notes  map[api.Note]bool
	file   string
	line   int
	large  bool
	uses   int
}

func (m *model) tell(col int, code api.Errno, text string) {
	if len(text) > note.MaxWord || strings.Contains(text, "\t") {
		text = ""
	}
	m.notes[api.Note{File: m.file, Line: m.line, Col: col, Code: code, Text: text}] = true
}

func (m *model) isName(s string) bool {
	return len(s) <= api.MaxName && wholeName.MatchString(s) && !wholeWord.MatchString(s)
}

// level is a condition: the parts before that were read, whether there was an else, where it began.
type level struct {
	outer, now, before, other bool
	line, col                 int
}

func (m *model) read(name string) {
	m.open = append(m.open, name)
	text := m.files[name]
	var lines []string
	if text != "" {
		lines = strings.Split(strings.TrimSuffix(text, "\n"), "\n")
	}
	var levels []*level
	inside := false
	for i, line := range lines {
		m.file, m.line = name, i+1
		reads := !slices.ContainsFunc(levels, func(l *level) bool { return !l.now })
		d := directiveLine.FindStringSubmatchIndex(line)
		if d == nil || inside {
			if !reads {
				m.put("", false)
				continue
			}
			var out string
			out, inside = m.oneLine(line, inside)
			m.put(out, out == line)
			continue
		}
		m.put("", false)
		col, word, content := d[2]+1, line[d[4]:d[5]], ""
		if d[6] >= 0 {
			content = line[d[6]:d[7]]
			content = strings.Trim(beforeComment.FindString(content), " \t")
		}
		switch word {
		case "define", "undef", "include":
			if reads {
				m.other(col, word, content)
			}
		default:
			levels = m.branch(levels, reads, col, word, content)
		}
	}
	for _, l := range levels {
		m.file, m.line = name, l.line
		m.tell(l.col, api.ErrShort, "")
	}
	m.open = m.open[:len(m.open)-1]
}

func (m *model) put(line string, whole bool) {
	m.text += line + "\n"
	m.lines = append(m.lines, prep.Origin{File: m.file, Line: m.line, Whole: whole})
	if len(m.text) > api.MaxText {
		m.large = true
	}
}

func (m *model) branch(levels []*level, reads bool, col int, word, content string) []*level {
	var holds bool
	if word == "else" || word == "endif" {
		holds = true
	} else if m.isName(content) {
		_, holds = m.macros[content]
		holds = holds != (word == "ifndef")
	}
	if word[:2] == "if" {
		if !m.isName(content) {
			m.tell(col, api.ErrName, content)
		}
		return append(levels, &level{outer: reads, now: reads && holds, before: holds, line: m.line, col: col})
	}
	if len(levels) == 0 {
		m.tell(col, api.ErrOrder, word)
		return nil
	}
	if word != "elsif" && content != "" {
		m.tell(col, api.ErrSyntax, word)
	}
	if word == "endif" {
		return levels[:len(levels)-1]
	}
	if word == "elsif" && !m.isName(content) {
		m.tell(col, api.ErrName, content)
	}
	l := levels[len(levels)-1]
	if l.other {
		m.tell(col, api.ErrOrder, word)
	}
	l.now = l.outer && holds && !l.before
	l.before = l.before || holds
	l.other = l.other || word == "else"
	return levels
}

func (m *model) other(col int, word, content string) {
	switch word {
	case "undef":
		if !m.isName(content) {
			m.tell(col, api.ErrName, content)
		} else if _, ok := m.macros[content]; !ok {
			m.tell(col, api.ErrNone, content)
		}
		delete(m.macros, content)
	case "include":
		f := fileForm.FindStringSubmatch(content)
		if f == nil {
			m.tell(col, api.ErrSyntax, word)
		} else if _, ok := m.files[f[1]]; !ok {
			m.tell(col, api.ErrNone, f[1])
		} else if slices.Contains(m.open, f[1]) || len(m.open) == 8 {
			m.tell(col, api.ErrLoop, f[1])
		} else {
			m.read(f[1])
		}
	case "define":
		d := definition.FindStringSubmatch(content)
		if d == nil {
			m.tell(col, api.ErrName, "")
			return
		}
		m.define(col, d[1], d[2], d[3], d[4], strings.HasPrefix(content, d[1]+"("))
	}
}

func (m *model) define(col int, name, list, end, rest string, params bool) {
	var names []string
	body := strings.Trim(rest, " \t")
	if !m.isName(name) {
		m.tell(col, api.ErrName, name)
		return
	}
	if params && end == "" {
		m.tell(col, api.ErrShort, name)
		return
	}
	if params {
		for _, p := range strings.Split(list, ",") {
			p = strings.Trim(p, " \t")
			if !m.isName(p) || slices.Contains(names, p) {
				m.tell(col, api.ErrName, p)
				return
			}
			names = append(names, p)
		}
	}
	_, twice := m.macros[name]
	switch {
	case !params && rest != "" && rest == strings.TrimLeft(rest, " \t"):
		m.tell(col, api.ErrSyntax, name)
	case len(names) > 8 || len(body) > 1000:
		m.tell(col, api.ErrLarge, name)
	case twice:
		m.tell(col, api.ErrTwice, name)
	default:
		m.macros[name] = modelMacro{names, body}
	}
}

func (m *model) oneLine(line string, inside bool) (string, bool) {
	out, at := "", 0
	if inside {
		end := strings.Index(line, "*/")
		if end < 0 {
			return line, true
		}
		at = end + 2
		out = line[:at]
	}
	for at < len(line) {
		p := lineParts.FindStringSubmatch(line[at:])
		if p[2] != "" {
			text, n := m.use(at+1, p[2][1:], line[at+len(p[2]):], 0)
			out += text
			at += len(p[2]) + n
			continue
		}
		out += p[0]
		at += len(p[0])
		if p[1] != "" && (len(p[1]) < 4 || !strings.HasSuffix(p[1], "*/")) {
			return out, true
		}
	}
	return out, false
}

// use returns what replaces the use of the macro name that is followed by a text, and how many bytes of the text belong to it.
func (m *model) use(col int, name, after string, depth int) (string, int) {
	d, ok := m.macros[name]
	if !ok {
		m.tell(col, api.ErrNone, name)
		return "", 0
	}
	if depth == 16 {
		m.tell(col, api.ErrLoop, name)
		return "", 0
	}
	m.uses++
	if m.uses > 2000 || m.large {
		m.large = true
		return "", 0
	}
	size := 0
	values := map[string]string{}
	if d.params != nil {
		if after == "" || after[0] != '(' {
			m.tell(col, api.ErrForm, name)
			return "", 0
		}
		var args []string
		args, size = modelArgs(after)
		if args == nil {
			m.tell(col, api.ErrShort, name)
			return "", len(after)
		}
		if len(args) != len(d.params) {
			m.tell(col, api.ErrForm, name)
			return "", size
		}
		for i, p := range d.params {
			values[p] = args[i]
		}
	}
	body := bodyParts.ReplaceAllStringFunc(d.body, func(s string) string {
		if v, ok := values[s]; ok {
			return v
		}
		return s
	})
	if len(body) > api.MaxText {
		m.large = true
		return "", 0
	}
	out := ""
	for body != "" {
		p := textParts.FindStringSubmatch(body)
		body = body[len(p[0]):]
		if p[2] == "" {
			out += p[0]
			continue
		}
		text, n := m.use(col, p[2][1:], body, depth+1)
		out += text
		body = body[n:]
	}
	return out, size
}

// modelArgs returns the arguments at the beginning of a text and their size; none if they do not end.
func modelArgs(after string) ([]string, int) {
	args := []string{""}
	stack := "("
	for at := 1; at < len(after); {
		p := textParts.FindStringSubmatch(after[at:])
		s := p[0]
		at += len(s)
		switch {
		case s == ")" && stack == "(":
			args[len(args)-1] = strings.Trim(args[len(args)-1], " \t")
			return args, at
		case strings.Contains("([{", s):
			stack += s
		case strings.Contains(")]}", s) && stack != "(":
			stack = stack[1:]
		case s == "," && stack == "(":
			args[len(args)-1] = strings.Trim(args[len(args)-1], " \t")
			args = append(args, "")
			continue
		}
		args[len(args)-1] += s
	}
	return nil, 0
}

// pieces are what random files consist of; the first ones are more frequent.
func pieces() ([]string, []string) {
	lines := []string{
		"`define A", "`define B 1`A ", "`define B(x) x+`A", "`define C(x, y)`B(x)y 1'y", "`define A(x) \"x\" `x`C(x,x) ", "`define D `C",
		"`undef A", "`undef B", "`ifdef A", "`ifndef A", "`ifdef B", "`elsif B", "`elsif C // x", "`else", "`endif", "`endif",
		"`include \"b\"", "`include \"c\"", " `A `B(1) `C((1),2)", "`C(`A,`B(`A))x", "/* `A", "*/ `A", "`D(1,2)`A", "`endif x", "`elsif 1", "`else",
	}
	parts := []string{
		"`A", "`B(", "`C(", ",", ")", ")", " ", "\"", "\\", "/*", "*/", "//", "/", "*", "[", "]", "{", "}", "(", "`", "'", "1", "x", "y", "\t",
		"`define ", "`undef ", "`ifdef ", "`endif", "A", "B", "x(", "8'h", "_", ".", "`E", "`x", "~", "#",
	}
	return lines, parts
}

func randomFile(rnd *rand.Rand) string {
	lines, parts := pieces()
	var s strings.Builder
	for range rnd.Intn(14) {
		if rnd.Intn(3) > 0 {
			s.WriteString(lines[rnd.Intn(len(lines))])
		}
		for rnd.Intn(4) == 0 {
			for range rnd.Intn(6) {
				s.WriteString(parts[rnd.Intn(len(parts))])
			}
		}
		s.WriteString("\n")
	}
	if rnd.Intn(2) == 0 {
		return strings.TrimSuffix(s.String(), "\n")
	}
	return s.String()
}

func TestModel(t *testing.T) {
	rnd := rand.New(rand.NewSource(4))
	fine := 0
	for range 60_000 {
		files := map[string]string{"a": randomFile(rnd), "b": randomFile(rnd), "c": randomFile(rnd)}
		defines := map[string]string{"B": "`A//", "E": "\"`A\" `D(2,3)"}
		if rnd.Intn(2) == 0 {
			defines["A"] = "/"
		}
		m := model{files: files, macros: map[string]modelMacro{}, notes: map[api.Note]bool{}}
		for k, v := range defines {
			m.macros[k] = modelMacro{nil, v}
		}
		m.read("a")
		want := note.Sort(slices.Collect(maps.Keys(m.notes)))
		s, l, e := prep.Run(files, "a", defines)
		switch {
		case m.large:
			if e != api.ErrLarge || len(l) > 0 {
				t.Fatalf("%q: %v instead of ErrLarge", files, e)
			}
		case len(want) > 0:
			if e != want[0].Code || !slices.Equal(l, want) || s.Text != "" || len(s.Lines) > 0 {
				t.Fatalf("%q\n%v instead of\n%v", files, l, want)
			}
		default:
			fine++
			if e != api.OK || len(l) > 0 || s.Text != m.text || !slices.Equal(s.Lines, m.lines) {
				t.Fatalf("%q\n%q %v %v instead of\n%q %v", files, s.Text, s.Lines, l, m.text, m.lines)
			}
		}
	}
	if fine < 3000 {
		t.Errorf("too few runs without messages: %d", fine)
	}
}

// Z1: any bytes can be passed.

func TestAnyBytes(t *testing.T) {
	rnd := rand.New(rand.NewSource(5))
	_, parts := pieces()
	for range 20_000 {
		var s []byte
		for range rnd.Intn(60) {
			if rnd.Intn(3) == 0 {
				s = append(s, byte(rnd.Intn(256)))
			} else {
				s = append(s, parts[rnd.Intn(len(parts))]...)
			}
		}
		out, l, e := prep.Run(map[string]string{"a": string(s), "b": "\xff`\x00"}, "a", map[string]string{"A": "`C(1,\\", "x": "(y\""})
		if e == api.OK && (len(out.Lines) != strings.Count(out.Text, "\n") || len(l) > 0) || e != api.OK && (out.Text != "" || e != l[0].Code) {
			t.Fatalf("%q: %v %v %v", s, out, l, e)
		}
		for _, n := range l {
			if note.Check(n) != api.OK {
				t.Fatalf("%q: %v", s, n)
			}
		}
	}
}
