package elab_test

import (
	"fmt"
	"strings"
	"testing"

	"maskwright/api"
	"maskwright/bits"
	"maskwright/design"
	"maskwright/elab"
	"maskwright/parse"
	"maskwright/prep"
	S "maskwright/syntax"
)

// The names of operations and kinds, in order.
var (
	exprOps   = strings.Fields("const ref elem slice part not neg redand redor redxor lnot land lor and or xor add sub mul div mod shl shr sar eq ne caseeq casene lt le cond cat rep resize call now")
	stmtOps   = strings.Fields("nop block if case while repeat set put delay on until show check stop")
	procKinds = strings.Fields("cont comb seq always initial")
	edgeKinds = strings.Fields("any rise fall")
	ports     = strings.Fields("inner in out")
	showKinds = strings.Fields("display write strobe monitor")
	wildness  = strings.Fields("exact wildz wildx")
	sequences = strings.Fields("holds then either both times")
)

// writer writes the parts of a design, each with all that it has but its line.
type writer struct {
	signals []api.Signal
	vars    []api.Signal // of the function
}

// sign returns s for what is signed.
func sign(signed bool) string {
	if signed {
		return "s"
	}
	return ""
}

// expr writes an expression: the operation or the name of a signal (with % for a variable), the width, s if it is Signed, and the kids.
func (w writer) expr(e api.Expr) string {
	var kids []string
	for _, kid := range e.Kids {
		kids = append(kids, w.expr(kid))
	}
	all := strings.Join(kids, ", ")
	size := fmt.Sprint(e.W, sign(e.Signed))
	switch e.Op {
	case api.Const:
		if v, ok := bits.Uint(e.N); ok && e.N.W == e.W {
			return fmt.Sprintf("%s'%d", size, v)
		}
		return size + ":" + bits.Text(e.N)
	case api.Ref, api.Elem:
		name := ""
		if e.Local {
			name = "%" + w.vars[e.Sig].Name
		} else {
			name = w.signals[e.Sig].Name
		}
		if e.Op == api.Elem {
			name += "[" + all + "]"
		}
		return name + ":" + size
	case api.Slice, api.Rep, api.Call:
		return fmt.Sprintf("%s%s@%d(%s)", exprOps[e.Op], size, e.At, all)
	}
	return fmt.Sprintf("%s%s(%s)", exprOps[e.Op], size, all)
}

// exprs writes expressions with commas between them.
func (w writer) exprs(list []api.Expr) string {
	var all []string
	for _, e := range list {
		all = append(all, w.expr(e))
	}
	return strings.Join(all, ", ")
}

// edges writes edges.
func (w writer) edges(list []api.Edge) string {
	var all []string
	for _, g := range list {
		all = append(all, edgeKinds[g.Kind]+" "+w.signals[g.Sig].Name)
	}
	return strings.Join(all, ", ")
}

// stmt writes a statement.
func (w writer) stmt(s api.Stmt) string {
	text := stmtOps[s.Op]
	switch s.Op {
	case api.Set, api.Put:
		text += " " + w.expr(s.To) + " ="
	case api.On:
		text += " " + w.edges(s.Edges)
	case api.Show:
		text += fmt.Sprintf(" %s %q", showKinds[s.Kind], s.Text)
	case api.Check:
		text += fmt.Sprintf(" %q", s.Text)
	case api.Case:
		text += " " + wildness[s.Kind]
	}
	if len(s.Args) > 0 {
		text += " " + w.exprs(s.Args)
	}
	for _, kid := range s.Kids {
		text += " {" + w.stmt(kid) + "}"
	}
	for _, item := range s.Items {
		text += " [" + w.exprs(item.Match) + ": " + w.stmt(item.Do) + "]"
	}
	return text
}

// signal writes a signal.
func (w writer) signal(s api.Signal) string {
	text := "wire"
	if s.Kind == api.Var {
		text = "var"
	}
	if s.Port != api.Inner {
		text = ports[s.Port] + " " + text
	}
	text += fmt.Sprintf(" %s:%d%s", s.Name, s.W, sign(s.Signed))
	if s.Elems != 1 {
		text += fmt.Sprint(" x", s.Elems)
	}
	for _, b := range s.Init {
		text += " =" + bits.Text(b)
	}
	return text
}

// sequence writes a sequence.
func (w writer) sequence(t api.Temporal) string {
	text := sequences[t.Op]
	switch t.Op {
	case api.Holds:
		return text + " " + w.expr(t.E)
	case api.Then, api.Times:
		text += fmt.Sprintf(" %d:%d", t.Lo, t.Hi)
	}
	for _, kid := range t.Kids {
		text += " (" + w.sequence(kid) + ")"
	}
	return text
}

// prop writes a property.
func (w writer) prop(p api.Prop) string {
	arrow := "->"
	if p.Later {
		arrow = "=>"
	}
	return fmt.Sprintf("prop %s %s: %s %s %s", p.Name, w.signals[p.Clock].Name, w.sequence(p.From), arrow, w.sequence(p.To))
}

// write returns the lines of a design: signals, functions, processes and properties.
func write(d api.Design) []string {
	w := writer{signals: d.Signals}
	var lines []string
	for _, s := range d.Signals {
		lines = append(lines, w.signal(s))
	}
	for _, f := range d.Funcs {
		w.vars = f.Vars
		var vars []string
		for _, v := range f.Vars {
			vars = append(vars, w.signal(v))
		}
		lines = append(lines, fmt.Sprintf("func %s/%d (%s) %s", f.Name, f.Args, strings.Join(vars, ", "), w.stmt(f.Body)))
	}
	for _, p := range d.Procs {
		head := procKinds[p.Kind] + " " + p.Name
		if p.Kind == api.Seq {
			head += " (" + w.edges(p.Edges) + ")"
		}
		lines = append(lines, head+": "+w.stmt(p.Body))
	}
	for _, p := range d.Props {
		lines = append(lines, w.prop(p))
	}
	return lines
}

// built returns the design of the module top of a text.
func built(t *testing.T, s string) api.Design {
	t.Helper()
	d, l, e := elab.Text(map[string]string{"a.mw": s}, "a.mw", "top", nil)
	if e != api.OK || len(l) > 0 {
		t.Fatalf("%s\n%v, error %d", short(s), l, e)
	}
	if e := design.Check(d); e != api.OK || d.Name != "top" {
		t.Fatalf("%s\nname %q, error %d", short(s), d.Name, e)
	}
	return d
}

// makes checks that a text gives a design of these lines; a line feed separates them, blanks around them count nothing.
func makes(t *testing.T, s, lines string) {
	t.Helper()
	got := write(built(t, s))
	var want []string
	for _, line := range strings.Split(strings.TrimSpace(lines), "\n") {
		if line = strings.TrimSpace(line); line != "" {
			want = append(want, line)
		}
	}
	if g, w := strings.Join(got, "\n"), strings.Join(want, "\n"); g != w {
		t.Errorf("%s\nis\n%s\nnot\n%s", s, g, w)
	}
}

// empty reports whether a design is the zero value.
func empty(d api.Design) bool {
	return d.Name == "" && len(d.Signals) == 0 && len(d.Funcs) == 0 && len(d.Procs) == 0 && len(d.Props) == 0
}

// fault is what is wrong with a text, at the mark @ in it; without a mark there is no message.
type fault struct {
	text string
	code api.Errno
	name string
}

// short returns the beginning of a text that is too long to be read.
func short(s string) string {
	if len(s) > 1500 {
		return s[:1500] + " .."
	}
	return s
}

// check checks that a text has the fault.
func (f fault) check(t *testing.T) {
	t.Helper()
	if strings.Count(f.text, "@") > 1 {
		t.Fatalf("%s\nhas several marks", f.text)
	}
	at := strings.IndexByte(f.text, '@')
	s := removeMark(f.text)
	d, l, e := elab.Text(map[string]string{"a.mw": s}, "a.mw", "top", nil)
	if e != f.code || !empty(d) {
		t.Errorf("%s\n%v, error %d, not %d", short(f.text), l, e, f.code)
		return
	}
	if at < 0 {
		if len(l) > 0 {
			t.Errorf("%s\n%v, not without a message", short(f.text), l)
		}
		return
	}
	before := f.text[:at]
	want := api.Note{File: "a.mw", Line: 1 + strings.Count(before, "\n"), Col: at - strings.LastIndexByte(before, '\n'), Code: f.code, Text: f.name}
	if len(l) != 1 || l[0] != want {
		t.Errorf("%s\n%v, not %v", short(f.text), l, want)
	}
}

// faults checks faults.
func faults(t *testing.T, list []fault) {
	t.Helper()
	for _, f := range list {
		f.check(t)
	}
}

// within returns faults of members, which it writes as those of a module with some names.
func within(list []fault) []fault {
	var all []fault
	for _, f := range list {
		f.text = "enum [1:0] E { ea, eb } struct R { [3:0] hi; signed lo; }\n" +
			"interface I #(n = 2) { wire [n-1:0] d; wire k; view src (out d, out k); view dst (in d, in k); view one (in k); }\n" +
			"module M #(p = 1, q = 2) (in [3:0] a, out [1:0] b, out var c, I.dst v) { }\n" +
			"function [3:0] F([3:0] x) { F = x + 1; }\n" +
			"module top (in clk, in [3:0] x, out [3:0] y, out var [3:0] z, I.dst pv) {\n" +
			"wire [3:0] w; wire [3:0] wa [1:2]; var [7:0] v; var [7:0] va [2:3]; const c = 5; const u = 2'b1x; wire R r; link l: I;\n" +
			f.text + "\n}"
		all = append(all, f)
	}
	return all
}

// tree returns the tree of a text.
func tree(t *testing.T, s string) S.File {
	t.Helper()
	source, l, e := prep.Run(map[string]string{"a.mw": s}, "a.mw", nil)
	if e != api.OK {
		t.Fatal(s, l, e)
	}
	f, l, e := parse.File(source)
	if e != api.OK {
		t.Fatal(s, l, e)
	}
	return f
}

// module returns the text of a module top with some members.
func module(members ...string) string {
	return "module top () {\n" + strings.Join(members, "\n") + "\n}"
}

// times returns some texts, of which f has the numbers.
func times(n int, f string) string {
	var b strings.Builder
	for i := range n {
		b.WriteString(strings.ReplaceAll(f, "#", fmt.Sprint(i)))
	}
	return b.String()
}

// removeMark removes the mark of a fault.
func removeMark(s string) string {
	return strings.Replace(s, "@", "", 1)
}

// replaced returns a text with something in place of #.
func replaced(s, by string) string {
	return strings.ReplaceAll(s, "#", by)
}
