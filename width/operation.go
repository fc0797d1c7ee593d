package width

import (
	mathbits "math/bits"

	"maskwright/api"
	"maskwright/bits"
	S "maskwright/syntax"
)

// countWidth is the width of what Width and Log return.
const countWidth = 32

// made returns what an operation makes of its kids.
func (env Env) made(n S.Node, kids []part) (part, Fault) {
	op := operation(n.Kind)
	switch n.Kind {
	case S.Plus:
		return kids[0], Fault{}
	case S.Neg, S.Not, S.Shl, S.Shr, S.Sar:
		return passing(op, kids, 0, 1), Fault{}
	case S.Mul, S.Div, S.Mod, S.Add, S.Sub, S.And, S.Xor, S.Or:
		return passing(op, kids, 0, 2), Fault{}
	case S.Cond:
		return passing(op, kids, 1, 3), Fault{}
	case S.LNot, S.RedAnd, S.RedOr, S.RedXor, S.LAnd, S.LOr:
		return alone(api.Expr{Op: op, W: 1, Kids: owns(kids)}, false), Fault{}
	case S.Lt, S.Le, S.Eq, S.Ne, S.CaseEq, S.CaseNe:
		return compared(op, kids, 0, 1), Fault{}
	case S.Gt, S.Ge:
		return compared(op, kids, 1, 0), Fault{}
	case S.Cat:
		return joined(n, kids)
	case S.Rep, S.Size, S.Log:
		return env.measured(n, kids)
	}
	return single(n, kids), Fault{}
}

// single returns what has no fault of its own and is no operation of a design, and the time.
func single(n S.Node, kids []part) part {
	switch n.Kind {
	case S.Num:
		return alone(Constant(n.Num, n.Signed), n.Signed)
	case S.Width:
		return alone(Constant(bits.Of(countWidth, uint64(kids[0].w)), true), true)
	case S.Signed, S.Unsigned:
		return alone(kids[0].own(), n.Kind == S.Signed)
	}
	return alone(api.Expr{Op: api.Now, W: 64}, false)
}

// passing returns an operation with the type of some of its kids, from number first to before number last, to which it passes on its context.
func passing(op int, kids []part, first, last int) part {
	w, signed := common(kids[first:last])
	value := func(w int, signed bool) api.Expr {
		e := api.Expr{Op: op, W: w, Signed: signed}
		if op == api.Sar && !signed {
			e.Op = api.Shr
		}
		for i, kid := range kids {
			if i >= first && i < last {
				e.Kids = append(e.Kids, kid.in(w, signed))
			} else {
				e.Kids = append(e.Kids, kid.own())
			}
		}
		return e
	}
	return part{w: w, signed: signed, in: value}
}

// compared returns a comparison of two kids, whose numbers are given.
func compared(op int, kids []part, a, b int) part {
	w, signed := common(kids)
	e := api.Expr{Op: op, W: 1, Kids: []api.Expr{kids[a].in(w, signed), kids[b].in(w, signed)}}
	e.Signed = signed && (op == api.Lt || op == api.Le)
	return alone(e, false)
}

// joined returns all kids as one vector.
func joined(n S.Node, kids []part) (part, Fault) {
	e := api.Expr{Op: api.Cat, Kids: owns(kids)}
	for _, kid := range kids {
		e.W += kid.w
	}
	if e.W > api.MaxWidth {
		return part{}, fault(n, api.ErrLarge, "")
	}
	return alone(e, false), Fault{}
}

// measured returns an operation whose first kid must be a constant.
func (env Env) measured(n S.Node, kids []part) (part, Fault) {
	if n.Kind == S.Log {
		return env.logarithm(kids[0])
	}
	k, f := env.integer(kids[0], 1, api.MaxWidth)
	if f.Code != api.OK {
		return part{}, f
	}
	times, of := int(k), kids[1]
	if n.Kind == S.Size {
		return alone(resized(of.own(), times, of.signed), of.signed), Fault{}
	}
	if times*of.w > api.MaxWidth {
		return part{}, fault(n, api.ErrLarge, "")
	}
	return alone(api.Expr{Op: api.Rep, W: times * of.w, At: times, Kids: []api.Expr{of.own()}}, false), Fault{}
}

// logarithm returns the number of bits that as many values need as a constant says.
func (env Env) logarithm(p part) (part, Fault) {
	b, f := env.number(p)
	if f.Code != api.OK {
		return part{}, f
	}
	v, ok := bits.Uint(b)
	if !ok {
		return part{}, fault(p.node, api.ErrConst, "")
	}
	k := 0
	if v > 0 {
		k = mathbits.Len64(v - 1)
	}
	return alone(Constant(bits.Of(countWidth, uint64(k)), true), true), Fault{}
}

// operation returns the operation of a design for a kind; Gt and Ge have that with exchanged kids.
func operation(kind int) int {
	switch kind {
	case S.LNot:
		return api.LNot
	case S.Not:
		return api.Not
	case S.RedAnd:
		return api.RedAnd
	case S.RedOr:
		return api.RedOr
	case S.RedXor:
		return api.RedXor
	case S.LAnd:
		return api.LAnd
	case S.LOr:
		return api.LOr
	case S.Cond:
		return api.Cond
	case S.Lt, S.Gt:
		return api.Lt
	case S.Le, S.Ge:
		return api.Le
	case S.Eq:
		return api.Eq
	case S.Ne:
		return api.Ne
	case S.CaseEq:
		return api.CaseEq
	case S.CaseNe:
		return api.CaseNe
	}
	return arithmetic(kind)
}

// arithmetic returns the operation of a design for a kind whose operands are numbers, or that joins them bit by bit.
func arithmetic(kind int) int {
	switch kind {
	case S.Neg:
		return api.Neg
	case S.Mul:
		return api.Mul
	case S.Div:
		return api.Div
	case S.Mod:
		return api.Mod
	case S.Add:
		return api.Add
	case S.Sub:
		return api.Sub
	case S.Shl:
		return api.Shl
	case S.Shr:
		return api.Shr
	case S.Sar:
		return api.Sar
	case S.And:
		return api.And
	case S.Xor:
		return api.Xor
	}
	return api.Or
}
