package syntax

import "strings"

// Classes of places that the checks name; the others are only letters of the table.
const (
	classFile   = 'F'
	classExpr   = 'E'
	classTarget = 't'
)

// form is the row of a kind in the table of chapter 5: its classes, the pattern of its kids, and the letters of its fields.
type form struct {
	classes, pattern, fields string
}

// formOf returns the row of a kind; None and numbers that are no kind belong to no class.
func formOf(kind int) form {
	switch {
	case kind >= Num:
		return formOfExpr(kind)
	case kind >= Block:
		return formOfStatement(kind)
	case kind >= Assign:
		return formOfMember(kind)
	case kind >= Wire:
		return formOfDeclaration(kind)
	}
	return formOfItem(kind)
}

// formOfItem has the rows of what is outside of members.
func formOfItem(kind int) form {
	switch kind {
	case Whole:
		return form{"F", "I*", ""}
	case Module:
		return form{"I", "pqb", "N"}
	case Interface:
		return form{"I", "pi", "N"}
	case Params:
		return form{"p", "P*", ""}
	case Param:
		return form{"P", "E", "N"}
	case Ports:
		return form{"q", "Q*", ""}
	case PortIn, PortOut:
		return form{"Q", "T", "N"}
	case PortVar:
		return form{"Q", "TE?", "N"}
	case PortView:
		return form{"Q", "nn", "N"}
	case Body:
		return form{"b", "M*", ""}
	case Inside:
		return form{"i", "V*", ""}
	case Ident:
		return form{"n", "", "N"}
	case Type:
		return form{"T", "R?", "S"}
	case TypeName:
		return form{"T", "", "N"}
	case Range:
		return form{"R", "EE", ""}
	}
	return form{}
}

// formOfDeclaration has the rows of what declares names in items and members.
func formOfDeclaration(kind int) form {
	switch kind {
	case Wire:
		return form{"MV", "TD+", ""}
	case Var:
		return form{"Mv", "TD+", ""}
	case Decl:
		return form{"D", "R?E?", "N"}
	case Const:
		return form{"IM", "E", "N"}
	case Enum:
		return form{"IM", "Rm+", "N"}
	case EnumItem:
		return form{"m", "E?", "N"}
	case Struct:
		return form{"IM", "f+", "N"}
	case Field:
		return form{"f", "T", "N"}
	case View:
		return form{"V", "d+", "N"}
	case DirIn, DirOut:
		return form{"d", "", "N"}
	case Function:
		return form{"IM", "Tah", "N"}
	case Args:
		return form{"a", "g*", ""}
	case Arg:
		return form{"g", "T", "N"}
	case Inner:
		return form{"h", "v*S*", ""}
	}
	return form{}
}

// formOfMember has the rows of the other members, and of sequences.
func formOfMember(kind int) form {
	switch kind {
	case Assign:
		return form{"M", "tE", ""}
	case Comb, Always, Initial:
		return form{"M", "S", ""}
	case Seq:
		return form{"M", "eS", ""}
	case Edges:
		return form{"e", "G+", ""}
	case EdgeAny, EdgeRise, EdgeFall:
		return form{"G", "t", ""}
	case Inst:
		return form{"M", "nxx", "N"}
	case Link:
		return form{"M", "nx", "N"}
	case Binds:
		return form{"x", "B*", ""}
	case Bind:
		return form{"B", "E", "N"}
	case GenFor:
		return form{"M", "nEEb", "N"}
	case GenIf:
		return form{"Mw", "Ebw?", "N"}
	case GenElse:
		return form{"w", "b", "N"}
	case PropSame, PropNext:
		return form{"M", "tXX", "N"}
	case SeqHold:
		return form{"X", "E", ""}
	case SeqThen:
		return form{"X", "XEu?X", ""}
	case SeqOr:
		return form{"X", "XX+", ""}
	case SeqAnd:
		return form{"X", "XX", ""}
	case SeqTimes:
		return form{"X", "XEu?", ""}
	case Star:
		return form{"u", "", ""}
	}
	return form{}
}

// formOfStatement has the rows of statements.
func formOfStatement(kind int) form {
	switch kind {
	case Block:
		return form{"S", "S*", ""}
	case If:
		return form{"S", "ESS?", ""}
	case Case, CaseZ, CaseX:
		return form{"S", "EC*", ""}
	case CaseItem:
		return form{"C", "E*S", ""}
	case While, Repeat:
		return form{"S", "ES", ""}
	case ForUp, ForDown:
		return form{"S", "EES", "N"}
	case Set, Put:
		return form{"S", "tEE?", ""}
	case Delay, Wait:
		return form{"S", "E", ""}
	case On:
		return form{"S", "e", ""}
	case Show, Write, Strobe, Monitor:
		return form{"S", "E*", "X"}
	case Assert:
		return form{"S", "E", "X"}
	case Stop, Nop:
		return form{"S", "", ""}
	}
	return form{}
}

// formOfExpr has the rows of expressions.
func formOfExpr(kind int) form {
	switch kind {
	case Num:
		return form{"Eu", "", "V"}
	case Name:
		return form{"Eut", "", "N"}
	case Select:
		return form{"Eut", "E", "N"}
	case Index:
		return form{"Eut", "EE", ""}
	case Slice, Part:
		return form{"Eut", "EEE", ""}
	case Call:
		return form{"Eu", "E*", "N"}
	case Plus, Neg, LNot, Not, RedAnd, RedOr, RedXor, Signed, Unsigned, Width, Log:
		return form{"Eu", "E", ""}
	case Mul, Div, Mod, Add, Sub, Shl, Shr, Sar, Lt, Le, Gt, Ge, Eq, Ne, CaseEq, CaseNe, And, Xor, Or, LAnd, LOr, Rep, Size:
		return form{"Eu", "EE", ""}
	case Cond:
		return form{"Eu", "EEE", ""}
	case Cat:
		return form{"Eut", "E+", ""}
	case Now:
		return form{"Eu", "", ""}
	}
	return form{}
}

// belongs reports whether a kind belongs to a class.
func belongs(kind int, class byte) bool {
	return strings.IndexByte(formOf(kind).classes, class) >= 0
}

// match returns the class of the letter that took it for each kid; false if the kids do not have the form of the pattern.
func match(pattern string, kids []Node) ([]byte, bool) {
	var classes []byte
	for pattern != "" {
		class, mark := pattern[0], byte(0)
		pattern = pattern[1:]
		if pattern != "" && strings.IndexByte("*+?", pattern[0]) >= 0 {
			mark = pattern[0]
			pattern = pattern[1:]
		}
		n := taken(class, mark, kids[len(classes):])
		if n == 0 && mark != '*' {
			return nil, false
		}
		for range n {
			classes = append(classes, class)
		}
	}
	return classes, len(classes) == len(kids)
}

// taken returns the number of kids that a letter with a mark takes. Only a letter that repeats asks for the class: a wrong kid elsewhere is an error of the kid, not of the pattern.
func taken(class, mark byte, kids []Node) int {
	switch {
	case mark == '*' || mark == '+':
		n := 0
		for n < len(kids) && belongs(kids[n].Kind, class) {
			n++
		}
		return n
	case len(kids) > 0 && (mark == '?' || kids[0].Kind != None):
		return 1
	}
	return 0
}
