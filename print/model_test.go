package print_test

import (
	"fmt"
	"regexp"
	"slices"
	"strconv"
	"strings"

	"maskwright/api"
	"maskwright/lex"
	"maskwright/syntax"
)

// The model has a template for each kind, and sets the blanks before the lines when all of a text is there.

// row is a row of the table of chapter 5, with the precedence and the template that chapter 7 has for it.
//
// In a template, @N is the name, @T the string, @t the string or nothing if it is empty, @S the sign of a type, @V the number, @2 the text of the kid 2 (in a place that needs the precedence 0), @2/9 in a place that needs 9, @, a list of all kids and @2, of those from 2 on, @* and @2* lines instead of a list, @#2 the parameters in the kid 2, @| the kids of a SeqOr, @< and @> the choices and the statement of an item. What stands between « and » is left out if there is nothing at its escape.
type row struct {
	kind                     int
	classes, pattern, fields string
	level                    int
	template                 string
}

// rows is the table; the zero row is that of None.
var rows = []row{
	{},
	{syntax.Whole, "F", "I*", "", 0, "@*"},
	{syntax.Module, "I", "pqb", "N", 0, "module @N@#0 @1 @2"},
	{syntax.Interface, "I", "pi", "N", 0, "interface @N@#0 @1"},
	{syntax.Params, "p", "P*", "", 0, "(@,)"},
	{syntax.Param, "P", "E", "N", 0, "@N = @0"},
	{syntax.Ports, "q", "Q*", "", 0, "(@,)"},
	{syntax.PortIn, "Q", "T", "N", 0, "in @0@N"},
	{syntax.PortOut, "Q", "T", "N", 0, "out @0@N"},
	{syntax.PortVar, "Q", "TE?", "N", 0, "out var @0@N« = @1»"},
	{syntax.PortView, "Q", "nn", "N", 0, "@0.@1 @N"},
	{syntax.Body, "b", "M*", "", 0, "{\n@*}\n"},
	{syntax.Inside, "i", "V*", "", 0, "{\n@*}\n"},
	{syntax.Ident, "n", "", "N", 0, "@N"},
	{syntax.Type, "T", "R?", "S", 0, "@S«@0 »"},
	{syntax.TypeName, "T", "", "N", 0, "@N "},
	{syntax.Range, "R", "EE", "", 0, "[@0:@1]"},
	{syntax.Wire, "MV", "TD+", "", 0, "wire @0@1,;\n"},
	{syntax.Var, "Mv", "TD+", "", 0, "var @0@1,;\n"},
	{syntax.Decl, "D", "R?E?", "N", 0, "@N@0« = @1»"},
	{syntax.Const, "IM", "E", "N", 0, "const @N = @0;\n"},
	{syntax.Enum, "IM", "Rm+", "N", 0, "enum @0 @N { @1, }\n"},
	{syntax.EnumItem, "m", "E?", "N", 0, "@N« = @0»"},
	{syntax.Struct, "IM", "f+", "N", 0, "struct @N {\n@*}\n"},
	{syntax.Field, "f", "T", "N", 0, "@0@N;\n"},
	{syntax.View, "V", "d+", "N", 0, "view @N (@,);\n"},
	{syntax.DirIn, "d", "", "N", 0, "in @N"},
	{syntax.DirOut, "d", "", "N", 0, "out @N"},
	{syntax.Function, "IM", "Tah", "N", 0, "function @0@N@1 @2"},
	{syntax.Args, "a", "g*", "", 0, "(@,)"},
	{syntax.Arg, "g", "T", "N", 0, "@0@N"},
	{syntax.Inner, "h", "v*S*", "", 0, "{\n@*}\n"},
	{syntax.Assign, "M", "tE", "", 0, "assign @0 = @1;\n"},
	{syntax.Comb, "M", "S", "", 0, "comb @0"},
	{syntax.Seq, "M", "eS", "", 0, "seq @0 @1"},
	{syntax.Always, "M", "S", "", 0, "always @0"},
	{syntax.Initial, "M", "S", "", 0, "initial @0"},
	{syntax.Edges, "e", "G+", "", 0, "(@,)"},
	{syntax.EdgeAny, "G", "t", "", 0, "@0"},
	{syntax.EdgeRise, "G", "t", "", 0, "rise @0"},
	{syntax.EdgeFall, "G", "t", "", 0, "fall @0"},
	{syntax.Inst, "M", "nxx", "N", 0, "inst @N: @0@#1 @2;\n"},
	{syntax.Link, "M", "nx", "N", 0, "link @N: @0@#1;\n"},
	{syntax.Binds, "x", "B*", "", 0, "(@,)"},
	{syntax.Bind, "B", "E", "N", 0, "@N = @0"},
	{syntax.GenFor, "M", "nEEb", "N", 0, "for (@0 = @1 to @2) : @N @3"},
	{syntax.GenIf, "Mw", "Ebw?", "N", 0, "if (@0) : @N @1«else @2»"},
	{syntax.GenElse, "w", "b", "N", 0, ": @N @0"},
	{syntax.PropSame, "M", "tXX", "N", 0, "property @N (rise @0) @1 -> @2;\n"},
	{syntax.PropNext, "M", "tXX", "N", 0, "property @N (rise @0) @1 => @2;\n"},
	{syntax.SeqHold, "X", "E", "", 4, "@0"},
	{syntax.SeqThen, "X", "XEu?X", "", 2, "@0/2 then (@1«:@2») @3/3"},
	{syntax.SeqOr, "X", "XX+", "", 0, "@|"},
	{syntax.SeqAnd, "X", "XX", "", 1, "@0/1 and @1/2"},
	{syntax.SeqTimes, "X", "XEu?", "", 3, "@0/3 times (@1«:@2»)"},
	{syntax.Star, "u", "", "", 12, "*"},
	{syntax.Block, "S", "S*", "", 0, "{\n@*}\n"},
	{syntax.If, "S", "ESS?", "", 0, "if (@0) @1«else @2»"},
	{syntax.Case, "S", "EC*", "", 0, "case (@0) {\n@1*}\n"},
	{syntax.CaseZ, "S", "EC*", "", 0, "casez (@0) {\n@1*}\n"},
	{syntax.CaseX, "S", "EC*", "", 0, "casex (@0) {\n@1*}\n"},
	{syntax.CaseItem, "C", "E*S", "", 0, "@<: @>"},
	{syntax.While, "S", "ES", "", 0, "while (@0) @1"},
	{syntax.Repeat, "S", "ES", "", 0, "repeat (@0) @1"},
	{syntax.ForUp, "S", "EES", "N", 0, "for (@N = @0 to @1) @2"},
	{syntax.ForDown, "S", "EES", "N", 0, "for (@N = @0 downto @1) @2"},
	{syntax.Set, "S", "tEE?", "", 0, "@0 = «after (@2) »@1;\n"},
	{syntax.Put, "S", "tEE?", "", 0, "@0 <= «after (@2) »@1;\n"},
	{syntax.Delay, "S", "E", "", 0, "delay @0;\n"},
	{syntax.On, "S", "e", "", 0, "on @0;\n"},
	{syntax.Wait, "S", "E", "", 0, "wait (@0);\n"},
	{syntax.Show, "S", "E*", "X", 0, "show(@T«, @,»);\n"},
	{syntax.Write, "S", "E*", "X", 0, "write(@T«, @,»);\n"},
	{syntax.Strobe, "S", "E*", "X", 0, "strobe(@T«, @,»);\n"},
	{syntax.Monitor, "S", "E*", "X", 0, "monitor(@T«, @,»);\n"},
	{syntax.Assert, "S", "E", "X", 0, "check(@0/0«, @t»);\n"},
	{syntax.Stop, "S", "", "", 0, "stop;\n"},
	{syntax.Nop, "S", "", "", 0, ";\n"},
	{syntax.Num, "Eu", "", "V", 12, "@V"},
	{syntax.Name, "Eut", "", "N", 12, "@N"},
	{syntax.Select, "Eut", "E", "N", 12, "@0/12.@N"},
	{syntax.Index, "Eut", "EE", "", 12, "@0/12[@1]"},
	{syntax.Slice, "Eut", "EEE", "", 12, "@0/12[@1:@2]"},
	{syntax.Part, "Eut", "EEE", "", 12, "@0/12[@1 +: @2]"},
	{syntax.Call, "Eu", "E*", "N", 12, "@N(@,)"},
	{syntax.Plus, "Eu", "E", "", 11, "+@0/11"},
	{syntax.Neg, "Eu", "E", "", 11, "-@0/11"},
	{syntax.LNot, "Eu", "E", "", 11, "!@0/11"},
	{syntax.Not, "Eu", "E", "", 11, "~@0/11"},
	{syntax.RedAnd, "Eu", "E", "", 11, "&@0/11"},
	{syntax.RedOr, "Eu", "E", "", 11, "|@0/11"},
	{syntax.RedXor, "Eu", "E", "", 11, "^@0/11"},
	{syntax.Mul, "Eu", "EE", "", 10, "@0/10 * @1/11"},
	{syntax.Div, "Eu", "EE", "", 10, "@0/10 / @1/11"},
	{syntax.Mod, "Eu", "EE", "", 10, "@0/10 % @1/11"},
	{syntax.Add, "Eu", "EE", "", 9, "@0/9 + @1/10"},
	{syntax.Sub, "Eu", "EE", "", 9, "@0/9 - @1/10"},
	{syntax.Shl, "Eu", "EE", "", 8, "@0/8 << @1/9"},
	{syntax.Shr, "Eu", "EE", "", 8, "@0/8 >> @1/9"},
	{syntax.Sar, "Eu", "EE", "", 8, "@0/8 >>> @1/9"},
	{syntax.Lt, "Eu", "EE", "", 7, "@0/7 < @1/8"},
	{syntax.Le, "Eu", "EE", "", 7, "@0/7 <= @1/8"},
	{syntax.Gt, "Eu", "EE", "", 7, "@0/7 > @1/8"},
	{syntax.Ge, "Eu", "EE", "", 7, "@0/7 >= @1/8"},
	{syntax.Eq, "Eu", "EE", "", 6, "@0/6 == @1/7"},
	{syntax.Ne, "Eu", "EE", "", 6, "@0/6 != @1/7"},
	{syntax.CaseEq, "Eu", "EE", "", 6, "@0/6 === @1/7"},
	{syntax.CaseNe, "Eu", "EE", "", 6, "@0/6 !== @1/7"},
	{syntax.And, "Eu", "EE", "", 5, "@0/5 & @1/6"},
	{syntax.Xor, "Eu", "EE", "", 4, "@0/4 ^ @1/5"},
	{syntax.Or, "Eu", "EE", "", 3, "@0/3 | @1/4"},
	{syntax.LAnd, "Eu", "EE", "", 2, "@0/2 && @1/3"},
	{syntax.LOr, "Eu", "EE", "", 1, "@0/1 || @1/2"},
	{syntax.Cond, "Eu", "EEE", "", 0, "@0/1 ? @1 : @2"},
	{syntax.Cat, "Eut", "E+", "", 12, "cat(@,)"},
	{syntax.Rep, "Eu", "EE", "", 12, "rep(@,)"},
	{syntax.Signed, "Eu", "E", "", 12, "signed(@0)"},
	{syntax.Unsigned, "Eu", "E", "", 12, "unsigned(@0)"},
	{syntax.Size, "Eu", "EE", "", 12, "size(@,)"},
	{syntax.Width, "Eu", "E", "", 12, "width(@0)"},
	{syntax.Log, "Eu", "E", "", 12, "log(@0)"},
	{syntax.Now, "Eu", "", "", 12, "now"},
}

var (
	group  = regexp.MustCompile(`«[^»]*»`)
	escape = regexp.MustCompile(`@(?:[NTtSV|<>]|#\d|\d?[,*]|\d(?:/\d+)?)`)
	plain  = regexp.MustCompile(`^[A-Za-z_][A-Za-z_0-9]{0,39}$`)
	double = regexp.MustCompile(`^(&&|\|\|)`)
	marked = regexp.MustCompile(`[\\"]`)
)

// modelFile returns the text of a file.
func modelFile(items []syntax.Node) string {
	text := modelText(syntax.Node{Kind: syntax.Whole, Kids: items}, 0)
	depth, out := 0, ""
	for _, line := range strings.SplitAfter(text, "\n") {
		if line == "}\n" {
			depth--
		}
		out += strings.Repeat("  ", depth*min(len(line), 1)) + line
		if strings.HasSuffix(line, "{\n") {
			depth++
		}
	}
	return out
}

// modelText returns the text of a node in a place that needs a precedence; the lines have no blanks before them.
func modelText(n syntax.Node, need int) string {
	r := rows[n.Kind]
	text := group.ReplaceAllStringFunc(r.template, func(part string) string {
		if modelEscape(n, escape.FindString(part)) == "" {
			return ""
		}
		return strings.Trim(part, "«»")
	})
	text = escape.ReplaceAllStringFunc(text, func(e string) string { return modelEscape(n, e) })
	if r.level == 11 && double.MatchString(text) {
		text = text[:1] + " " + text[1:]
	}
	switch {
	case n.Kind == syntax.None || r.level >= need:
		return text
	case r.classes == "X":
		return "[" + text + "]"
	}
	return "(" + text + ")"
}

// modelEscape returns what stands for an escape of a template.
func modelEscape(n syntax.Node, e string) string {
	switch e[1:] {
	case "N":
		return modelName(n.Name)
	case "t":
		if n.Text == "" {
			return ""
		}
		return modelEscape(n, "@T")
	case "T":
		return `"` + marked.ReplaceAllString(n.Text, `\$0`) + `"`
	case "S":
		return strings.Repeat("signed ", strings.Count(fmt.Sprint(n.Signed), "true"))
	case "V":
		return modelNumber(n)
	case "|":
		return strings.Join(modelTexts(n.Kids, 1), " or ")
	case "<":
		if len(n.Kids) == 1 {
			return "default"
		}
		return strings.Join(modelTexts(n.Kids[:len(n.Kids)-1], 0), ", ")
	case ">":
		return modelText(n.Kids[len(n.Kids)-1], 0)
	}
	return modelKids(n, e[1:])
}

// modelKids returns what stands for an escape with the number of a kid.
func modelKids(n syntax.Node, e string) string {
	last := len(e) - 1
	switch {
	case e[0] == '#':
		k := n.Kids[e[1]-'0']
		return strings.TrimSuffix(" #"+modelText(k, 0), " #()")
	case e[last] == ',' || e[last] == '*':
		from, _ := strconv.Atoi(e[:last])
		separator := map[byte]string{',': ", "}[e[last]]
		return strings.Join(modelTexts(n.Kids[from:], 0), separator)
	}
	at, need, _ := strings.Cut(e, "/")
	kid, _ := strconv.Atoi(at)
	level, _ := strconv.Atoi(need)
	return modelText(n.Kids[kid], level)
}

// modelTexts returns the texts of nodes.
func modelTexts(list []syntax.Node, need int) []string {
	var texts []string
	for _, n := range list {
		texts = append(texts, modelText(n, need))
	}
	return texts
}

// modelName returns the text of a name.
func modelName(s string) string {
	if plain.MatchString(s) && !slices.Contains(lex.Words(), s) {
		return s
	}
	return `\` + s + ` `
}

// modelNumber returns the text of a number.
func modelNumber(n syntax.Node) string {
	s, mark := "", map[bool]string{true: "s"}[n.Signed]
	for i := n.Num.W - 1; i >= 0; i-- {
		s += string("01zx"[n.Num.V>>i&1+n.Num.X>>i&1*2])
	}
	if v, e := strconv.ParseInt(s, 2, 32); e == nil && len(s) == 32 && n.Signed {
		return fmt.Sprint(v)
	}
	return fmt.Sprintf("%d'%sb%s", n.Num.W, mark, s)
}

// modelPrint is the model of File.
func modelPrint(items []syntax.Node) (string, api.Errno) {
	if e := syntax.Check(syntax.File{Items: items}); e != api.OK {
		return "", e
	}
	s := modelFile(items)
	if len(s) > 16000 {
		return "", api.ErrLarge
	}
	return s, api.OK
}
