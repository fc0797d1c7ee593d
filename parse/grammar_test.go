package parse_test

import (
	"math/rand"
	"regexp"
	"slices"
	"strings"

	"maskwright/api"
	"maskwright/lex"
	"maskwright/syntax"
)

// grammar is that of chapter 6. A mark @Kind at the end of an alternative makes a node of what stands in it; @<Kind makes one of what stands in it and all of the rule that is before it; @? makes a None if there is nothing.
const grammar = `
File = { Item }
Item = Module | Interface | Const | Enum | Struct | Function
Module = "module" NAME Params Ports Body @Module
Params = [ "#" "(" Param { "," Param } ")" ] @Params
Param = NAME "=" Expr @Param
Ports = "(" [ Port { "," Port } ] ")" @Ports
Port = "in" Type NAME @PortIn | "out" Type NAME @PortOut | "out" "var" Type NAME Init @PortVar | Ident "." Ident NAME @PortView
Ident = NAME @Ident
Init = [ "=" Expr ] @?
Type = NAME @TypeName | [ "signed" ] Range @Type
Range = [ FullRange ] @?
FullRange = "[" Expr ":" Expr "]" @Range
Body = "{" { Member } "}" @Body
Interface = "interface" NAME Params Inside @Interface
Inside = "{" { Wire | View } "}" @Inside
View = "view" NAME "(" Dir { "," Dir } ")" ";" @View
Dir = "in" NAME @DirIn | "out" NAME @DirOut
Const = "const" NAME "=" Expr ";" @Const
Enum = "enum" FullRange NAME "{" EnumItem { "," EnumItem } "}" @Enum
EnumItem = NAME Init @EnumItem
Struct = "struct" NAME "{" Field { Field } "}" @Struct
Field = Type NAME ";" @Field
Function = "function" Type NAME Args Inner @Function
Args = "(" [ Arg { "," Arg } ] ")" @Args
Arg = Type NAME @Arg
Inner = "{" { Var } { Stmt } "}" @Inner
Wire = "wire" Type Decl { "," Decl } ";" @Wire
Var = "var" Type Decl { "," Decl } ";" @Var
Decl = NAME Range Init @Decl
Member = Wire | Var | Const | Enum | Struct | Function | "assign" Target "=" Expr ";" @Assign | "comb" Stmt @Comb | "seq" Edges Stmt @Seq | "always" Stmt @Always | "initial" Stmt @Initial | "inst" NAME ":" Ident Settings Connections ";" @Inst | "link" NAME ":" Ident Settings ";" @Link | "for" "(" Ident "=" Expr "to" Expr ")" ":" NAME Body @GenFor | GenIf | "property" NAME "(" "rise" Target ")" Seq "->" Seq ";" @PropSame | "property" NAME "(" "rise" Target ")" Seq "=>" Seq ";" @PropNext
GenIf = "if" "(" Expr ")" ":" NAME Body Other @GenIf
Other = [ "else" ( GenIf | Else ) ] @?
Else = ":" NAME Body @GenElse
Settings = "#" Binds | @Binds
Connections = "(" [ Bind { "," Bind } ] ")" @Binds
Binds = "(" Bind { "," Bind } ")" @Binds
Bind = NAME "=" Expr @Bind
Edges = "(" Edge { "," Edge } ")" @Edges
Edge = Target @EdgeAny | "rise" Target @EdgeRise | "fall" Target @EdgeFall
Seq = SeqAnd [ "or" SeqAnd { "or" SeqAnd } @<SeqOr ]
SeqAnd = SeqThen { "and" SeqThen @<SeqAnd }
SeqThen = SeqTimes { "then" Bounds SeqTimes @<SeqThen }
SeqTimes = SeqAtom { "times" Bounds @<SeqTimes }
SeqAtom = "[" Seq "]" | Expr @SeqHold
Bounds = "(" Expr Upper ")"
Upper = [ ":" ( "*" @Star | Expr ) ] @?
Stmt = ";" @Nop | "{" { Stmt } "}" @Block | "if" "(" Expr ")" Stmt Branch @If | "case" "(" Expr ")" "{" { CaseItem } "}" @Case | "casez" "(" Expr ")" "{" { CaseItem } "}" @CaseZ | "casex" "(" Expr ")" "{" { CaseItem } "}" @CaseX | "while" "(" Expr ")" Stmt @While | "repeat" "(" Expr ")" Stmt @Repeat | "for" "(" NAME "=" Expr "to" Expr ")" Stmt @ForUp | "for" "(" NAME "=" Expr "downto" Expr ")" Stmt @ForDown | Target "=" After Expr ";" @Set | Target "<=" After Expr ";" @Put | "delay" Expr ";" @Delay | "on" Edges ";" @On | "wait" "(" Expr ")" ";" @Wait | "stop" ";" @Stop | "check" "(" Expr [ "," STRING ] ")" ";" @Assert | "show" "(" STRING { "," Expr } ")" ";" @Show | "write" "(" STRING { "," Expr } ")" ";" @Write | "strobe" "(" STRING { "," Expr } ")" ";" @Strobe | "monitor" "(" STRING { "," Expr } ")" ";" @Monitor
Branch = [ "else" Stmt ] @?
After = [ "after" "(" Expr ")" ] @?
CaseItem = ( "default" | Expr { "," Expr } ) ":" Stmt @CaseItem
Target = Place | "cat" "(" Target { "," Target } ")" @Cat
Expr = E1 [ "?" Expr ":" Expr @<Cond ]
E1 = E2 { "||" E2 @<LOr }
E2 = E3 { "&&" E3 @<LAnd }
E3 = E4 { "|" E4 @<Or }
E4 = E5 { "^" E5 @<Xor }
E5 = E6 { "&" E6 @<And }
E6 = E7 { "==" E7 @<Eq | "!=" E7 @<Ne | "===" E7 @<CaseEq | "!==" E7 @<CaseNe }
E7 = E8 { "<" E8 @<Lt | "<=" E8 @<Le | ">" E8 @<Gt | ">=" E8 @<Ge }
E8 = E9 { "<<" E9 @<Shl | ">>" E9 @<Shr | ">>>" E9 @<Sar }
E9 = E10 { "+" E10 @<Add | "-" E10 @<Sub }
E10 = Unary { "*" Unary @<Mul | "/" Unary @<Div | "%" Unary @<Mod }
Unary = "+" Unary @Plus | "-" Unary @Neg | "!" Unary @LNot | "~" Unary @Not | "&" Unary @RedAnd | "|" Unary @RedOr | "^" Unary @RedXor | NUMBER @Num | "(" Expr ")" | Place | NAME "(" [ Expr { "," Expr } ] ")" @Call | "cat" "(" Expr { "," Expr } ")" @Cat | "rep" "(" Expr "," Expr ")" @Rep | "size" "(" Expr "," Expr ")" @Size | "signed" "(" Expr ")" @Signed | "unsigned" "(" Expr ")" @Unsigned | "width" "(" Expr ")" @Width | "log" "(" Expr ")" @Log | "now" @Now
Place = First { "." NAME @<Select | "[" Expr "]" @<Index | "[" Expr ":" Expr "]" @<Slice | "[" Expr "+:" Expr "]" @<Part }
First = NAME @Name
`

// kindNames are the names of the kinds of chapter 5, in the order of its table, behind None.
const kindNames = `None File Module Interface Params Param Ports PortIn PortOut PortVar PortView Body Inside Ident Type TypeName Range
	Wire Var Decl Const Enum EnumItem Struct Field View DirIn DirOut Function Args Arg Inner Assign Comb Seq Always Initial
	Edges EdgeAny EdgeRise EdgeFall Inst Link Binds Bind GenFor GenIf GenElse PropSame PropNext SeqHold SeqThen SeqOr SeqAnd SeqTimes Star
	Block If Case CaseZ CaseX CaseItem While Repeat ForUp ForDown Set Put Delay On Wait Show Write Strobe Monitor Assert Stop Nop
	Num Name Select Index Slice Part Call Plus Neg LNot Not RedAnd RedOr RedXor Mul Div Mod Add Sub Shl Shr Sar Lt Le Gt Ge
	Eq Ne CaseEq CaseNe And Xor Or LAnd LOr Cond Cat Rep Signed Unsigned Size Width Log Now`

// part is a part of a rule: a symbol (a text), a rule (a name), or alternatives within brackets.
type part struct {
	mark   byte // " a symbol, R a rule, ( [ { alternatives that are there once, perhaps, or any number of times
	text   string
	choice []alternative
}

// alternative is an alternative of a rule, or of what stands in brackets: its parts, and the mark at its end.
type alternative struct {
	parts []part
	mark  string
}

// words takes the notation of the grammar apart.
var words = regexp.MustCompile(`"[^"]+"|@[<?]?\w*|\w+|[][(){}|=\n]`)

// rules reads the grammar.
func rules() map[string][]alternative {
	all := map[string][]alternative{}
	for _, line := range strings.Split(strings.TrimSpace(grammar), "\n") {
		list := words.FindAllString(line, -1)
		rest := list[2:]
		all[list[0]] = choices(&rest)
	}
	return all
}

// choices reads alternatives up to a closing bracket, or to the end.
func choices(rest *[]string) []alternative {
	list := []alternative{{}}
	for len(*rest) > 0 {
		w := (*rest)[0]
		*rest = (*rest)[1:]
		last := &list[len(list)-1]
		switch {
		case w == "|":
			list = append(list, alternative{})
		case strings.Contains(")]}", w):
			return list
		case strings.Contains("([{", w):
			last.parts = append(last.parts, part{mark: w[0], choice: choices(rest)})
		case w[0] == '@':
			last.mark = w[1:]
		case w[0] == '"':
			last.parts = append(last.parts, part{mark: '"', text: strings.Trim(w, `"`)})
		case w == "NAME" || w == "NUMBER" || w == "STRING":
			last.parts = append(last.parts, part{mark: '"', text: w})
		default:
			last.parts = append(last.parts, part{mark: 'R', text: w})
		}
	}
	return list
}

// heights returns the least number of levels that a derivation of each rule needs.
func heights(all map[string][]alternative) map[string]int {
	high := map[string]int{}
	for name := range all {
		high[name] = 1000
	}
	for range all {
		for name, list := range all {
			for _, a := range list {
				high[name] = min(high[name], 1+heightOf(high, a))
			}
		}
	}
	return high
}

// heightOf returns the least number of levels that an alternative needs.
func heightOf(high map[string]int, a alternative) int {
	most := 0
	for _, p := range a.parts {
		switch p.mark {
		case 'R':
			most = max(most, high[p.text])
		case '(':
			least := 1000
			for _, b := range p.choice {
				least = min(least, heightOf(high, b))
			}
			most = max(most, least)
		}
	}
	return most
}

// deriver makes random sentences of the grammar, and their trees, in which the Line of a node is the number of the token at its place.
type deriver struct {
	r    *rand.Rand
	all  map[string][]alternative
	high map[string]int
	used map[string]int // how often each mark was used
	most int            // the number of tokens from which on a sentence comes to its end
	long bool           // whether the expressions in a sentence are as long as it permits
	out  []token
}

// token is a token of a sentence: its symbol, and the text that it has in a source.
type token struct{ symbol, text string }

// made is what a part of a rule gives to the node that is made of it: the kids, and tokens.
type made struct {
	nodes  []syntax.Node
	tokens []token
}

// newDeriver returns a deriver.
func newDeriver(seed int64) *deriver {
	all := rules()
	return &deriver{r: rand.New(rand.NewSource(seed)), all: all, high: heights(all), used: map[string]int{}}
}

// derive makes a sentence of a rule, of up to so many levels if it can have so few, and returns its tokens, and the nodes that it makes.
func (d *deriver) derive(rule string, depth, most int) ([]token, []syntax.Node) {
	d.out, d.most, d.long = nil, d.r.Intn(most), rule == "Expr"
	nodes := d.rule(rule, depth)
	return d.out, nodes
}

// rule makes a sentence of a rule. The expressions of a file are short, so that there is room for all that is around them.
func (d *deriver) rule(name string, depth int) []syntax.Node {
	most := d.most
	if name == "Expr" && !d.long {
		d.most = min(most, len(d.out)+d.r.Intn(10))
	}
	nodes := d.alternative(d.choose(d.all[name], depth-1), depth-1, made{}, len(d.out)).nodes
	d.most = most
	return nodes
}

// choose returns a random alternative; if there are no levels left, one of those that need the fewest.
func (d *deriver) choose(list []alternative, depth int) alternative {
	least := 1000
	if len(d.out) > d.most {
		depth = 0
	}
	for _, a := range list {
		least = min(least, heightOf(d.high, a))
	}
	var fit []alternative
	for _, a := range list {
		if heightOf(d.high, a) <= max(least, depth) {
			fit = append(fit, a)
		}
	}
	return fit[d.r.Intn(len(fit))]
}

// alternative makes a sentence of an alternative. It is given what is before it in the rule, and the number of the first token of the rule.
func (d *deriver) alternative(a alternative, depth int, before made, start int) made {
	at := len(d.out)
	var in made
	for _, p := range a.parts {
		in = d.part(p, depth, in, start)
	}
	d.used[a.mark]++
	switch {
	case a.mark == "?" && len(in.nodes) == 0:
		before.nodes = append(before.nodes, syntax.Node{})
	case a.mark == "?" || a.mark == "":
		before.nodes = append(before.nodes, in.nodes...)
		before.tokens = append(before.tokens, in.tokens...)
	case a.mark[0] == '<':
		in.nodes = append(before.nodes, in.nodes...)
		before.nodes = []syntax.Node{wrap(a.mark[1:], in, start)}
	default:
		before.nodes = append(before.nodes, wrap(a.mark, in, at))
	}
	return before
}

// part makes a sentence of a part of an alternative, and adds what it makes to what is before it.
func (d *deriver) part(p part, depth int, before made, start int) made {
	times := 1
	switch p.mark {
	case '"':
		t := d.token(p.text)
		d.out = append(d.out, t)
		before.tokens = append(before.tokens, t)
		return before
	case 'R':
		before.nodes = append(before.nodes, d.rule(p.text, depth)...)
		return before
	case '[':
		times = d.r.Intn(2)
	case '{':
		times = []int{0, 1, 1, 2, 3, 6}[d.r.Intn(6)]
		if strings.HasPrefix(p.choice[0].mark, "<") {
			times = max(0, d.r.Intn(10)-7) // many of these rules stand within one another
		}
	}
	if p.mark != '(' && !d.fits(p, depth) {
		times = 0
	}
	for range times {
		before = d.alternative(d.choose(p.choice, depth), depth, before, start)
	}
	return before
}

// fits reports whether there are levels left for what is in brackets.
func (d *deriver) fits(p part, depth int) bool {
	return len(d.out) <= d.most && slices.ContainsFunc(p.choice, func(a alternative) bool { return heightOf(d.high, a) <= depth })
}

// token returns a random token of a symbol.
func (d *deriver) token(symbol string) token {
	var list []string
	switch symbol {
	case "NAME":
		list = []string{"a", "b", "clk", "Q_2", "_", strings.Repeat("n", 40), `\if `, `\a$b `, `\( ` + "\n", `\;` + "\t", "NAME", "END"}
	case "NUMBER":
		list = []string{"0", "7", "2147483647", "8'sd5", "4'b1x0z", "64'hffff0000ffffzzzz", "3'bz0x"}
	case "STRING":
		list = []string{`""`, `"x = %d"`, `"("`, `"\"\\"`, `"` + strings.Repeat("y", 200) + `"`}
	default:
		return token{symbol, symbol}
	}
	return token{symbol, list[d.r.Intn(len(list))]}
}

// wrap makes a node of a kind, with the number of the token at its place.
func wrap(kind string, in made, at int) syntax.Node {
	n := syntax.Node{Kind: slices.Index(kindList, kind), Line: at, Kids: in.nodes}
	for _, t := range in.tokens {
		switch t.symbol {
		case "NAME":
			n.Name = tokenOf(t.text).Text
		case "NUMBER":
			n.Num, n.Signed = tokenOf(t.text).Num, tokenOf(t.text).Signed
		case "STRING":
			n.Text = tokenOf(t.text).Text
		case "signed":
			n.Signed = kind == "Type"
		}
	}
	if kind == "Set" || kind == "Put" {
		n.Kids[1], n.Kids[2] = n.Kids[2], n.Kids[1] // in the text, the expression comes last
	}
	return n
}

// tokenOf returns the token of a text.
func tokenOf(s string) lex.Token {
	l, _, _, e := lex.Tokens(s)
	if e != api.OK || len(l) != 2 {
		panic(s)
	}
	return l[0]
}

// lay writes tokens with gaps and comments between them, and returns the text, and the line and the column of each token and of the end.
func (d *deriver) lay(tokens []token) (string, [][2]int) {
	gaps := []string{" ", " ", " ", "\t", "\n", "  ", " /* in \n */", " // x\n", "\n\n\t "}
	var text strings.Builder
	var places [][2]int
	line, col := 1, 1
	put := func(s string) {
		text.WriteString(s)
		for _, c := range []byte(s) {
			col++
			if c == '\n' {
				line, col = line+1, 1
			}
		}
	}
	for _, t := range tokens {
		places = append(places, [2]int{line, col})
		put(t.text)
		if !strings.Contains("()[]{};,", t.symbol) || d.r.Intn(2) > 0 {
			put(gaps[d.r.Intn(len(gaps))])
		}
	}
	return text.String(), append(places, [2]int{line, col})
}

// placed returns a tree with the places of the tokens of which the numbers are in it.
func placed(n syntax.Node, places [][2]int) syntax.Node {
	if n.Kind != syntax.None {
		n.Line, n.Col = places[n.Line][0], places[n.Line][1]
	}
	n.Kids = slices.Clone(n.Kids)
	for i, k := range n.Kids {
		n.Kids[i] = placed(k, places)
	}
	return n
}
