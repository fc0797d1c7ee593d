package print

import S "maskwright/syntax"

// operator is the sign of an operation, and its precedence.
type operator struct {
	sign  string
	level int
}

// Precedences of expressions that are no operations of two operands.
const (
	lowest = 0
	prefix = 11
	atom   = 12
)

// operators returns the operators of all operations of one and of two operands.
func operators() map[int]operator {
	return map[int]operator{
		S.LOr:    {"||", 1},
		S.LAnd:   {"&&", 2},
		S.Or:     {"|", 3},
		S.Xor:    {"^", 4},
		S.And:    {"&", 5},
		S.Eq:     {"==", 6},
		S.Ne:     {"!=", 6},
		S.CaseEq: {"===", 6},
		S.CaseNe: {"!==", 6},
		S.Lt:     {"<", 7},
		S.Le:     {"<=", 7},
		S.Gt:     {">", 7},
		S.Ge:     {">=", 7},
		S.Shl:    {"<<", 8},
		S.Shr:    {">>", 8},
		S.Sar:    {">>>", 8},
		S.Add:    {"+", 9},
		S.Sub:    {"-", 9},
		S.Mul:    {"*", 10},
		S.Div:    {"/", 10},
		S.Mod:    {"%", 10},
		S.Plus:   {"+", prefix},
		S.Neg:    {"-", prefix},
		S.LNot:   {"!", prefix},
		S.Not:    {"~", prefix},
		S.RedAnd: {"&", prefix},
		S.RedOr:  {"|", prefix},
		S.RedXor: {"^", prefix},
	}
}

// words returns, for kinds of which the texts are the same but for a word or a sign, this word or sign.
func words() map[int]string {
	return map[int]string{
		S.PortIn:   "in ",
		S.PortOut:  "out ",
		S.PortVar:  "out var ",
		S.DirIn:    "in ",
		S.DirOut:   "out ",
		S.Wire:     "wire ",
		S.Var:      "var ",
		S.Comb:     "comb ",
		S.Always:   "always ",
		S.Initial:  "initial ",
		S.EdgeAny:  "",
		S.EdgeRise: "rise ",
		S.EdgeFall: "fall ",
		S.PropSame: " -> ",
		S.PropNext: " => ",
		S.Case:     "case (",
		S.CaseZ:    "casez (",
		S.CaseX:    "casex (",
		S.While:    "while (",
		S.Repeat:   "repeat (",
		S.ForUp:    " to ",
		S.ForDown:  " downto ",
		S.Set:      " = ",
		S.Put:      " <= ",
		S.Show:     "show(",
		S.Write:    "write(",
		S.Strobe:   "strobe(",
		S.Monitor:  "monitor(",
		S.Slice:    ":",
		S.Part:     " +: ",
		S.Cat:      "cat",
		S.Rep:      "rep",
		S.Size:     "size",
		S.Signed:   "signed",
		S.Unsigned: "unsigned",
		S.Width:    "width",
		S.Log:      "log",
	}
}
