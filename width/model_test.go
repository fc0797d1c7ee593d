package width_test

import (
	"math/big"
	"regexp"

	"maskwright/api"
	"maskwright/bits"
	S "maskwright/syntax"
	"maskwright/width"
)

// rules has, for operations, the one of a design, and a letter for each kid: c for one that has the context of the operation, o for one with its own, b for one of two that are compared.
var rules = map[int]struct {
	op   int
	kids string
}{
	S.Neg: {api.Neg, "c"}, S.Not: {api.Not, "c"},
	S.Mul: {api.Mul, "cc"}, S.Div: {api.Div, "cc"}, S.Mod: {api.Mod, "cc"}, S.Add: {api.Add, "cc"}, S.Sub: {api.Sub, "cc"}, S.And: {api.And, "cc"}, S.Xor: {api.Xor, "cc"}, S.Or: {api.Or, "cc"},
	S.Shl: {api.Shl, "co"}, S.Shr: {api.Shr, "co"}, S.Sar: {api.Sar, "co"}, S.Cond: {api.Cond, "occ"},
	S.LNot: {api.LNot, "o"}, S.RedAnd: {api.RedAnd, "o"}, S.RedOr: {api.RedOr, "o"}, S.RedXor: {api.RedXor, "o"}, S.LAnd: {api.LAnd, "oo"}, S.LOr: {api.LOr, "oo"},
	S.Lt: {api.Lt, "bb"}, S.Le: {api.Le, "bb"}, S.Gt: {api.Lt, "bb"}, S.Ge: {api.Le, "bb"}, S.Eq: {api.Eq, "bb"}, S.Ne: {api.Ne, "bb"}, S.CaseEq: {api.CaseEq, "bb"}, S.CaseNe: {api.CaseNe, "bb"},
}

// model says what chapter 10 says: first of types, by looking at the whole tree below again and again, then of values from the top down. A fault is a panic.
type model struct {
	env width.Env
}

// guarded runs f, and returns the fault with which it ended.
func guarded(f func()) (fault width.Fault) {
	defer func() {
		if x := recover(); x != nil {
			fault = x.(width.Fault)
		}
	}()
	f()
	return
}

// fail ends with a fault.
func fail(n S.Node, code api.Errno, text string) {
	panic(width.Fault{Line: n.Line, Col: n.Col, Code: code, Text: text})
}

// typ returns the own type of an expression, with its fields.
func (m model) typ(n S.Node) width.Type {
	if n.Kind >= S.Name && n.Kind <= S.Part {
		p := m.place(n)
		if p.array {
			fail(n, api.ErrType, p.name)
		}
		return p.typ
	}
	if n.Kind == S.Call {
		return m.function(n)
	}
	var kids []width.Type
	for _, kid := range n.Kids {
		kids = append(kids, m.typ(kid))
	}
	if rule, ok := rules[n.Kind]; ok {
		return operationType(rule.kids, kids)
	}
	switch n.Kind {
	case S.Num:
		return width.Type{W: n.Num.W, Signed: n.Signed}
	case S.Now:
		return width.Type{W: 64}
	case S.Plus:
		return width.Type{W: kids[0].W, Signed: kids[0].Signed}
	case S.Signed, S.Unsigned:
		return width.Type{W: kids[0].W, Signed: n.Kind == S.Signed}
	case S.Size:
		return width.Type{W: m.constant(n.Kids[0], 1, 64), Signed: kids[1].Signed}
	case S.Log:
		if _, ok := valueOf(m.known(n.Kids[0]), false); !ok {
			fail(n.Kids[0], api.ErrConst, "")
		}
		return width.Type{W: 32, Signed: true}
	case S.Width:
		return width.Type{W: 32, Signed: true}
	}
	sum := 0
	for _, kid := range kids {
		sum += kid.W
	}
	if n.Kind == S.Rep {
		sum = m.constant(n.Kids[0], 1, 64) * kids[1].W
	}
	if sum > 64 {
		fail(n, api.ErrLarge, "")
	}
	return width.Type{W: sum}
}

// operationType returns the type of an operation with a rule.
func operationType(rule string, kids []width.Type) width.Type {
	x := width.Type{W: 1, Signed: true}
	found := false
	for i, kid := range kids {
		if rule[i] == 'c' {
			x.W, x.Signed, found = max(x.W, kid.W), x.Signed && kid.Signed, true
		}
	}
	x.Signed = x.Signed && found
	return x
}

// function returns the type of a call.
func (m model) function(n S.Node) width.Type {
	x, ok := m.env.Names[n.Name]
	if !ok {
		fail(n, api.ErrNone, n.Name)
	}
	if x.Kind != width.Func {
		fail(n, api.ErrType, n.Name)
	}
	if len(n.Kids) != len(x.Args) {
		fail(n, api.ErrForm, n.Name)
	}
	for _, kid := range n.Kids {
		m.typ(kid)
	}
	return width.Type{W: x.Type.W, Signed: x.Type.Signed}
}

// open reports whether something below names a signal or the time; Width only asks for a type.
func (m model) open(n S.Node) bool {
	name := n.Name
	if n.Kind == S.Select && n.Kids[0].Kind == S.Name && m.env.Names[n.Kids[0].Name].Kind == width.Group {
		name = n.Kids[0].Name + "." + n.Name
	} else {
		for _, kid := range n.Kids {
			if n.Kind != S.Width && m.open(kid) {
				return true
			}
		}
	}
	return n.Kind == S.Now || n.Kind == S.Name && m.env.Names[name].Kind == width.Signal || n.Kind == S.Select && name != n.Name && m.env.Names[name].Kind == width.Signal
}

// known returns the states of a constant.
func (m model) known(n S.Node) string {
	if m.open(n) {
		fail(n, api.ErrConst, "")
	}
	return m.own(nil, n)
}

// constant returns a constant from lo to hi.
func (m model) constant(n S.Node, lo, hi int) int {
	states := m.known(n)
	v, ok := valueOf(states, m.typ(n).Signed)
	if !ok {
		fail(n, api.ErrConst, "")
	}
	if v.Cmp(big.NewInt(int64(lo))) < 0 || v.Cmp(big.NewInt(int64(hi))) > 0 {
		fail(n, api.ErrRange, "")
	}
	return int(v.Int64())
}

// spot is a place; trail has an f for each selection of fixed bits, and a v for each one of variable bits.
type spot struct {
	name, trail string
	thing       width.Thing
	array       bool
	typ         width.Type
	value       api.Expr
}

// place returns a place.
func (m model) place(n S.Node) spot {
	name := n.Name
	if n.Kind == S.Select && n.Kids[0].Kind == S.Name && m.env.Names[n.Kids[0].Name].Kind == width.Group {
		name = n.Kids[0].Name + "." + n.Name
	} else if n.Kind != S.Name {
		return m.selection(n)
	}
	x, ok := m.env.Names[name]
	if !ok {
		fail(n, api.ErrNone, name)
	}
	if x.Kind == width.Func || x.Kind == width.Group {
		fail(n, api.ErrType, name)
	}
	p := spot{name: name, thing: x, array: x.Array, typ: x.Type, value: api.Expr{Op: api.Ref, W: x.Type.W, Signed: x.Type.Signed, Sig: x.Sig}}
	if x.Kind == width.Const {
		p.value = api.Expr{Op: api.Const, W: x.Type.W, Signed: x.Type.Signed, N: x.Value}
	}
	return p
}

// selection returns a part of a place.
func (m model) selection(n S.Node) spot {
	p := m.place(n.Kids[0])
	for _, kid := range n.Kids[1:] {
		m.typ(kid)
	}
	if p.array {
		if n.Kind != S.Index {
			fail(n, api.ErrType, p.name)
		}
		p.value = api.Expr{Op: api.Elem, W: p.typ.W, Signed: p.typ.Signed, Sig: p.thing.Sig, Kids: []api.Expr{m.index(n.Kids[1], p.thing.First, p.thing.First+p.thing.Elems-1)}}
		p.array = false
		return p
	}
	first, last := p.typ.Lsb, p.typ.Lsb+p.typ.W-1
	switch n.Kind {
	case S.Select:
		for _, x := range p.typ.Fields {
			if x.Name == n.Name {
				return p.cut(x.At, x.Type)
			}
		}
		fail(n, api.ErrNone, n.Name)
	case S.Slice:
		hi := m.constant(n.Kids[1], first, last)
		lo := m.constant(n.Kids[2], first, hi)
		return p.cut(lo-first, width.Type{W: hi - lo + 1})
	}
	w := 1
	if n.Kind == S.Part {
		w = m.constant(n.Kids[2], 1, p.typ.W)
	}
	index := m.index(n.Kids[1], first, last)
	if m.open(n.Kids[1]) {
		p.value = api.Expr{Op: api.Part, W: w, Kids: []api.Expr{p.value, index}}
		p.typ, p.trail = width.Type{W: w}, p.trail+"v"
		return p
	}
	at := m.constant(n.Kids[1], first, last)
	if at+w-1 > last {
		fail(n.Kids[1], api.ErrRange, "")
	}
	return p.cut(at-first, width.Type{W: w})
}

// cut returns fixed bits of a place.
func (p spot) cut(at int, x width.Type) spot {
	e := api.Expr{Op: api.Slice, W: x.W, Signed: x.Signed, At: at, Kids: []api.Expr{p.value}}
	for e.Kids[0].Op == api.Slice {
		e.At += e.Kids[0].At
		e.Kids = e.Kids[0].Kids
	}
	p.value, p.typ, p.trail = e, x, p.trail+"f"
	return p
}

// index returns an index for numbers from first up to last.
func (m model) index(n S.Node, first, last int) api.Expr {
	if !m.open(n) {
		at := m.constant(n, first, last) - first
		w := 1
		for at >= 1<<w {
			w++
		}
		return num(w, uint64(at))
	}
	x := m.typ(n)
	w := 0
	for last >= 1<<w {
		w++
	}
	if x.Signed {
		w++
	}
	w = max(w, 1, x.W)
	e := m.resize(m.value(n, x.W, x.Signed), w, x.Signed)
	if e.Signed {
		e = api.Expr{Op: api.Slice, W: w, Kids: []api.Expr{e}}
	}
	if first == 0 {
		return e
	}
	return op(api.Sub, w, e, num(w, uint64(first)))
}

// value returns the value of an expression in a context.
func (m model) value(n S.Node, w int, signed bool) api.Expr {
	own := func(i int) api.Expr { return m.value(n.Kids[i], m.typ(n.Kids[i]).W, m.typ(n.Kids[i]).Signed) }
	rule, ok := rules[n.Kind]
	if n.Kind == S.Plus {
		return m.value(n.Kids[0], w, signed)
	}
	if ok && regexp.MustCompile("c").MatchString(rule.kids) {
		e := api.Expr{Op: rule.op, W: w, Signed: signed}
		if n.Kind == S.Sar && !signed {
			e.Op = api.Shr
		}
		for i, kid := range n.Kids {
			if rule.kids[i] == 'c' {
				e.Kids = append(e.Kids, m.value(kid, w, signed))
			} else {
				e.Kids = append(e.Kids, own(i))
			}
		}
		return e
	}
	return m.resize(m.alone(n, own), w, signed)
}

// alone returns the value of an expression that has one of its own.
func (m model) alone(n S.Node, own func(int) api.Expr) api.Expr {
	x := m.typ(n)
	whole := func(v uint64) api.Expr { return signed(num(32, v)) }
	switch n.Kind {
	case S.Num:
		return api.Expr{Op: api.Const, W: n.Num.W, Signed: n.Signed, N: n.Num}
	case S.Now:
		return op(api.Now, 64)
	case S.Width:
		return whole(uint64(m.typ(n.Kids[0]).W))
	case S.Log:
		v, _ := valueOf(m.known(n.Kids[0]), false)
		k := 0
		for new(big.Int).Lsh(big.NewInt(1), uint(k)).Cmp(v) < 0 {
			k++
		}
		return whole(uint64(k))
	case S.Signed, S.Unsigned:
		return own(0)
	case S.Size:
		return m.resize(own(1), x.W, x.Signed)
	case S.Rep:
		return api.Expr{Op: api.Rep, W: x.W, At: x.W / m.typ(n.Kids[1]).W, Kids: []api.Expr{own(1)}}
	case S.Call:
		f := m.env.Names[n.Name]
		e := api.Expr{Op: api.Call, W: x.W, Signed: x.Signed, At: f.Sig}
		for i, kid := range n.Kids {
			e.Kids = append(e.Kids, m.assigned(kid, f.Args[i].W))
		}
		return e
	case S.Cat:
		e := op(api.Cat, x.W)
		for i := range n.Kids {
			e.Kids = append(e.Kids, own(i))
		}
		return e
	}
	rule, ok := rules[n.Kind]
	switch {
	case !ok:
		return m.place(n).value
	case rule.kids == "bb":
		return m.compared(n, rule.op)
	}
	e := op(rule.op, 1)
	for i := range n.Kids {
		e.Kids = append(e.Kids, own(i))
	}
	return e
}

// compared returns a comparison.
func (m model) compared(n S.Node, kind int) api.Expr {
	a, b := m.typ(n.Kids[0]), m.typ(n.Kids[1])
	w, sign := max(a.W, b.W), a.Signed && b.Signed
	e := op(kind, 1, m.value(n.Kids[0], w, sign), m.value(n.Kids[1], w, sign))
	if n.Kind == S.Gt || n.Kind == S.Ge {
		e.Kids[0], e.Kids[1] = e.Kids[1], e.Kids[0]
	}
	e.Signed = sign && (kind == api.Lt || kind == api.Le)
	return e
}

// assigned returns the value of an expression for a vector of w bits.
func (m model) assigned(n S.Node, w int) api.Expr {
	x := m.typ(n)
	return m.resize(m.value(n, max(w, x.W), x.Signed), w, x.Signed)
}

// resize cuts or extends an expression: by the letters of a rule if it is cut, with c for kids that are cut likewise.
func (m model) resize(e api.Expr, w int, signed bool) api.Expr {
	if e.W == w {
		return e
	}
	if e.Op == api.Const {
		return api.Expr{Op: api.Const, W: w, Signed: signed, N: bits.Resize(e.N, w, signed)}
	}
	if e.Op == api.Resize && e.W > w {
		return m.resize(e.Kids[0], w, e.Signed)
	}
	cut := map[int]string{api.Add: "cc", api.Sub: "cc", api.Mul: "cc", api.And: "cc", api.Or: "cc", api.Xor: "cc", api.Not: "c", api.Neg: "c", api.Cond: "occ", api.Shl: "co"}[e.Op]
	if cut == "" || e.W < w {
		return api.Expr{Op: api.Resize, W: w, Signed: signed, Kids: []api.Expr{e}}
	}
	less := api.Expr{Op: e.Op, W: w, Signed: e.Signed}
	for i, kid := range e.Kids {
		if cut[i] == 'c' {
			kid = m.resize(kid, w, signed)
		}
		less.Kids = append(less.Kids, kid)
	}
	return less
}

// fixedOrOne says which selections a target can have.
var fixedOrOne = regexp.MustCompile("^(f*|v)$")

// target returns what an assignment sets.
func (m model) target(n S.Node) api.Expr {
	if n.Kind != S.Cat {
		p := m.place(n)
		if p.array || p.thing.Kind == width.Const || !fixedOrOne.MatchString(p.trail) {
			fail(n, api.ErrType, p.name)
		}
		return p.value
	}
	e := op(api.Cat, 0)
	for _, kid := range n.Kids {
		to := m.target(kid)
		e.W += to.W
		e.Kids = append(e.Kids, to)
	}
	if e.W > 64 {
		fail(n, api.ErrLarge, "")
	}
	return e
}

// valueOf returns the number of states that are all known.
func valueOf(states string, signed bool) (*big.Int, bool) {
	n, ok := new(big.Int).SetString(states, 2)
	if ok && signed && states[0] == '1' {
		n.Sub(n, new(big.Int).Lsh(big.NewInt(1), uint(len(states))))
	}
	return n, ok
}
