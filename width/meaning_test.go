package width_test

import (
	"math/big"
	"strings"

	"maskwright/api"
	"maskwright/bits"
	S "maskwright/syntax"
	"maskwright/width"
)

// memory has the states of the elements of signals, by their numbers, and the time.
type memory struct {
	sigs map[[2]int]string
	now  uint64
}

// own returns the states of an expression in its own context.
func (m model) own(mem *memory, n S.Node) string {
	x := m.typ(n)
	return m.meaning(mem, n, x.W, x.Signed)
}

// meaning returns the states that an expression of a source has in a context, without an expression of a design.
func (m model) meaning(mem *memory, n S.Node, w int, sign bool) string {
	rule, ok := rules[n.Kind]
	switch {
	case n.Kind == S.Plus:
		return m.meaning(mem, n.Kids[0], w, sign)
	case !ok:
		return stretch(m.thing(mem, n), w, sign)
	case rule.kids == "bb":
		a, b := m.typ(n.Kids[0]), m.typ(n.Kids[1])
		both, signs := max(a.W, b.W), a.Signed && b.Signed
		one := compare(n.Kind, m.meaning(mem, n.Kids[0], both, signs), m.meaning(mem, n.Kids[1], both, signs), signs)
		return stretch(one, w, sign)
	}
	var kids []string
	passes := false
	for i, kid := range n.Kids {
		if rule.kids[i] == 'c' {
			passes = true
			kids = append(kids, m.meaning(mem, kid, w, sign))
		} else {
			kids = append(kids, m.own(mem, kid))
		}
	}
	s := compute(n.Kind, kids, sign)
	if !passes {
		return stretch(s, w, sign)
	}
	return s
}

// stretch extends states.
func stretch(s string, w int, sign bool) string {
	fill := "0"
	if sign {
		fill = s[:1]
	}
	return strings.Repeat(fill, w-len(s)) + s
}

// trim cuts or extends states.
func trim(s string, w int, sign bool) string {
	if w < len(s) {
		return s[len(s)-w:]
	}
	return stretch(s, w, sign)
}

// thing returns the states of an expression that is no operation with a rule.
func (m model) thing(mem *memory, n S.Node) string {
	whole := func(v int) string { return states(api.Bits{W: 32, V: uint64(v)}) }
	switch n.Kind {
	case S.Num:
		return states(n.Num)
	case S.Now:
		return states(api.Bits{W: 64, V: mem.now})
	case S.Width:
		return whole(m.typ(n.Kids[0]).W)
	case S.Log:
		v, _ := valueOf(m.known(n.Kids[0]), false)
		if v.Sign() == 0 {
			return whole(0)
		}
		return whole(new(big.Int).Sub(v, big.NewInt(1)).BitLen())
	case S.Signed, S.Unsigned:
		return m.own(mem, n.Kids[0])
	case S.Size:
		return trim(m.own(mem, n.Kids[1]), m.typ(n).W, m.typ(n.Kids[1]).Signed)
	case S.Cat:
		s := ""
		for _, kid := range n.Kids {
			s += m.own(mem, kid)
		}
		return s
	case S.Rep:
		s := m.own(mem, n.Kids[1])
		return strings.Repeat(s, m.typ(n).W/len(s))
	case S.Call:
		return m.called(mem, n)
	}
	s, _ := m.spotted(mem, n)
	return s
}

// called returns the states of a call of one of the functions.
func (m model) called(mem *memory, n S.Node) string {
	var args []string
	for i, kid := range n.Kids {
		x, w := m.typ(kid), m.env.Names[n.Name].Args[i].W
		args = append(args, trim(m.meaning(mem, kid, max(w, x.W), x.Signed), w, x.Signed))
	}
	switch n.Name {
	case "f":
		return compute(S.Not, args, false) + args[0]
	case "h":
		return "101"
	case "two":
		return compute(S.Add, []string{stretch(args[0], 5, true), args[1][4:]}, false)
	}
	return "1"
}

// spotted returns the states of a place, and its type.
func (m model) spotted(mem *memory, n S.Node) (string, width.Type) {
	x, ok := m.env.Names[n.Name]
	if n.Kind == S.Select && n.Kids[0].Kind == S.Name {
		if y, group := m.env.Names[n.Kids[0].Name+"."+n.Name]; group {
			x, ok = y, true
			n.Kind = S.Name
		}
	}
	switch {
	case n.Kind == S.Name && ok && x.Kind == width.Const:
		return states(x.Value), x.Type
	case n.Kind == S.Name:
		return mem.sigs[[2]int{x.Sig, 0}], x.Type
	}
	if p := m.place(n.Kids[0]); p.array {
		k, ok := valueOf(m.own(mem, n.Kids[1]), m.typ(n.Kids[1]).Signed)
		for i := range p.thing.Elems {
			if ok && k.Cmp(big.NewInt(int64(p.thing.First+i))) == 0 {
				return mem.sigs[[2]int{p.thing.Sig, i}], p.typ
			}
		}
		return strings.Repeat("x", p.typ.W), p.typ
	}
	s, t := m.spotted(mem, n.Kids[0])
	if n.Kind == S.Select {
		for _, f := range t.Fields {
			if f.Name == n.Name {
				return s[len(s)-f.At-f.Type.W : len(s)-f.At], f.Type
			}
		}
	}
	from, count := n.Kids[1], 1
	switch n.Kind {
	case S.Slice:
		from = n.Kids[2]
		count = m.constant(n.Kids[1], -1<<62, 1<<62) - m.constant(from, -1<<62, 1<<62) + 1
	case S.Part:
		count = m.constant(n.Kids[2], 1, 64)
	}
	at, ok := valueOf(m.own(mem, from), m.typ(from).Signed)
	if ok && at.Cmp(big.NewInt(int64(t.Lsb))) < 0 {
		ok = false // what begins below the first bit has no bit at all
	}
	part := ""
	for i := range count {
		part = stateAt(s, at, ok, i-t.Lsb) + part
	}
	return part, width.Type{W: count}
}

// stateAt returns the state of a bit, which is x if there is none.
func stateAt(s string, at *big.Int, ok bool, plus int) string {
	if !ok {
		return "x"
	}
	i := new(big.Int).Add(at, big.NewInt(int64(plus)))
	if i.Sign() < 0 || i.Cmp(big.NewInt(int64(len(s)))) >= 0 {
		return "x"
	}
	k := len(s) - 1 - int(i.Int64())
	return s[k : k+1]
}

// compare returns the state of a comparison.
func compare(kind int, a, b string, sign bool) string {
	x, y := vec(a), vec(b)
	switch kind {
	case S.Lt:
		return states(bits.Lt(x, y, sign))
	case S.Le:
		return states(bits.Le(x, y, sign))
	case S.Gt:
		return states(bits.Lt(y, x, sign))
	case S.Ge:
		return states(bits.Le(y, x, sign))
	case S.Eq:
		return states(bits.Eq(x, y))
	case S.Ne:
		return states(bits.Ne(x, y))
	case S.CaseEq:
		return states(bits.CaseEq(x, y))
	}
	return states(bits.CaseNe(x, y))
}

// compute returns the states of an operation, of operands that are as wide as it needs them.
func compute(kind int, kids []string, sign bool) string {
	var v []api.Bits
	for _, s := range kids {
		v = append(v, vec(s))
	}
	v = append(v, api.Bits{}, api.Bits{})
	shift := bits.Shr
	if sign {
		shift = bits.Sar
	}
	one := map[int]func(a api.Bits) api.Bits{S.Neg: bits.Neg, S.Not: bits.Not, S.LNot: bits.LNot, S.RedAnd: bits.RedAnd, S.RedOr: bits.RedOr, S.RedXor: bits.RedXor}
	two := map[int]func(a, b api.Bits) api.Bits{
		S.Mul: bits.Mul, S.Add: bits.Add, S.Sub: bits.Sub, S.And: bits.And, S.Xor: bits.Xor, S.Or: bits.Or, S.Shl: bits.Shl, S.Shr: bits.Shr, S.Sar: shift, S.LAnd: bits.LAnd, S.LOr: bits.LOr,
		S.Div: func(a, b api.Bits) api.Bits { return bits.Div(a, b, sign) }, S.Mod: func(a, b api.Bits) api.Bits { return bits.Mod(a, b, sign) },
	}
	switch {
	case kind == S.Cond:
		return states(bits.Cond(v[0], v[1], v[2]))
	case one[kind] != nil:
		return states(one[kind](v[0]))
	}
	return states(two[kind](v[0], v[1]))
}
