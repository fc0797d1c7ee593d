package fold_test

import (
	"math/big"
	"math/rand"
	"testing"

	"maskwright/api"
	"maskwright/bits"
	"maskwright/fold"
	S "maskwright/syntax"
	"maskwright/width"
)

// kinds has a letter for each kid of an operation: c for one that has the context of the operation, o for one with its own, b for one of two that are compared.
var kinds = map[int]string{
	S.Plus: "c", S.Neg: "c", S.Not: "c", S.Mul: "cc", S.Div: "cc", S.Mod: "cc", S.Add: "cc", S.Sub: "cc", S.And: "cc", S.Xor: "cc", S.Or: "cc", S.Shl: "co", S.Shr: "co", S.Sar: "co", S.Cond: "occ",
	S.LNot: "o", S.RedAnd: "o", S.RedOr: "o", S.RedXor: "o", S.LAnd: "oo", S.LOr: "oo", S.Lt: "bb", S.Le: "bb", S.Gt: "bb", S.Ge: "bb", S.Eq: "bb", S.Ne: "bb", S.CaseEq: "bb", S.CaseNe: "bb",
}

// unknown is the panic of the model where a value has bits that are not known.
type unknown struct{}

// model says what constants mean with whole numbers of any size, from the top down, without vectors and without expressions of a design. It has no words for bits that are not known.
type model struct {
	env width.Env
}

// knows reports whether f ends, and not with a panic for what is not known.
func knows(f func()) (ok bool) {
	defer func() {
		if x := recover(); x != nil {
			_ = x.(unknown)
		}
	}()
	f()
	return true
}

func number(v int64) *big.Int { return big.NewInt(v) }

// low returns a number modulo 2^w.
func low(v *big.Int, w int) *big.Int {
	return new(big.Int).Mod(v, new(big.Int).Lsh(number(1), uint(w)))
}

// meant returns a number of w bits as it is meant with a sign, or without.
func meant(v *big.Int, w int, signed bool) *big.Int {
	if signed && v.Bit(w-1) > 0 {
		return new(big.Int).Sub(v, new(big.Int).Lsh(number(1), uint(w)))
	}
	return v
}

// truth returns 1 or 0.
func truth(yes bool) *big.Int {
	if yes {
		return number(1)
	}
	return number(0)
}

// typ returns the own width and sign of an expression.
func (m model) typ(n S.Node) (int, bool) {
	w, signed, found := 0, true, false
	for i, kid := range n.Kids {
		if letters := kinds[n.Kind]; letters != "" && letters[i] == 'c' {
			kidW, kidSigned := m.typ(kid)
			w, signed, found = max(w, kidW), signed && kidSigned, true
		}
	}
	switch {
	case found:
		return w, signed
	case kinds[n.Kind] != "":
		return 1, false
	}
	switch n.Kind {
	case S.Num:
		return n.Num.W, n.Signed
	case S.Signed, S.Unsigned:
		w, _ = m.typ(n.Kids[0])
		return w, n.Kind == S.Signed
	case S.Size:
		_, signed = m.typ(n.Kids[1])
		return int(n.Kids[0].Num.V), signed
	case S.Width, S.Log:
		return 32, true
	case S.Cat:
		for _, kid := range n.Kids {
			kidW, _ := m.typ(kid)
			w += kidW
		}
		return w, false
	case S.Rep:
		w, _ = m.typ(n.Kids[1])
		return w * int(n.Kids[0].Num.V), false
	case S.Call:
		x := m.env.Names[n.Name].Type
		return x.W, x.Signed
	}
	_, x := m.place(n)
	return x.W, x.Signed
}

// own returns the number of an expression in its own context.
func (m model) own(n S.Node) *big.Int {
	w, signed := m.typ(n)
	return m.value(n, w, signed)
}

// value returns the number of an expression in a context, from 0 on.
func (m model) value(n S.Node, w int, signed bool) *big.Int {
	letters := kinds[n.Kind]
	switch {
	case n.Kind == S.Cond:
		if m.own(n.Kids[0]).Sign() != 0 {
			return m.value(n.Kids[1], w, signed)
		}
		return m.value(n.Kids[2], w, signed)
	case letters != "" && letters[0] == 'c':
		a := meant(m.value(n.Kids[0], w, signed), w, signed)
		b := number(0)
		switch letters {
		case "cc":
			b = meant(m.value(n.Kids[1], w, signed), w, signed)
		case "co":
			b = m.own(n.Kids[1])
		}
		return low(compute(n.Kind, a, b, w), w)
	}
	// Everything else has a value of its own, which its context only extends.
	ownW, _ := m.typ(n)
	return low(meant(m.alone(n), ownW, signed), w)
}

// compute returns the number that an operation makes of others, whose signs count.
func compute(kind int, a, b *big.Int, w int) *big.Int {
	to := new(big.Int)
	switch kind {
	case S.Plus:
		return a
	case S.Neg:
		return to.Neg(a)
	case S.Not:
		return to.Not(a)
	case S.Mul:
		return to.Mul(a, b)
	case S.Add:
		return to.Add(a, b)
	case S.Sub:
		return to.Sub(a, b)
	case S.And:
		return to.And(a, b)
	case S.Xor:
		return to.Xor(a, b)
	case S.Or:
		return to.Or(a, b)
	case S.Shl, S.Shr, S.Sar:
		return shifted(kind, a, b, w)
	}
	switch {
	case b.Sign() == 0:
		panic(unknown{})
	case kind == S.Div:
		return to.Quo(a, b)
	}
	return to.Rem(a, b)
}

// shifted returns a number of w bits that is shifted by as many bits as another one says.
func shifted(kind int, a, by *big.Int, w int) *big.Int {
	count := uint(w)
	if by.Cmp(number(int64(w))) < 0 {
		count = uint(by.Uint64())
	}
	to := new(big.Int)
	switch kind {
	case S.Shl:
		return to.Lsh(a, count)
	case S.Shr:
		return to.Rsh(low(a, w), count)
	}
	return to.Rsh(a, count)
}

// alone returns the number of an expression that passes on no context.
func (m model) alone(n S.Node) *big.Int {
	kid := func(i int) *big.Int { return m.own(n.Kids[i]) }
	var w int
	var signed bool
	if len(n.Kids) > 0 && n.Kind != S.Call {
		w, signed = m.typ(n.Kids[len(n.Kids)-1])
	}
	switch n.Kind {
	case S.LNot:
		return truth(kid(0).Sign() == 0)
	case S.RedAnd:
		return truth(kid(0).Cmp(low(number(-1), w)) == 0)
	case S.RedOr:
		return truth(kid(0).Sign() != 0)
	case S.RedXor:
		odd := false
		for i, v := 0, kid(0); i < w; i++ {
			odd = odd != (v.Bit(i) > 0)
		}
		return truth(odd)
	case S.LAnd:
		return truth(kid(0).Sign() != 0 && kid(1).Sign() != 0)
	case S.LOr:
		return truth(kid(0).Sign() != 0 || kid(1).Sign() != 0)
	case S.Num:
		return vector(n.Num)
	case S.Signed, S.Unsigned:
		return kid(0)
	case S.Size:
		return low(meant(kid(1), w, signed), int(n.Kids[0].Num.V))
	case S.Width:
		return number(int64(w))
	case S.Log:
		k := int64(0)
		for v := kid(0); new(big.Int).Lsh(number(1), uint(k)).Cmp(v) < 0; {
			k++
		}
		return number(k)
	case S.Cat:
		all := number(0)
		for i := range n.Kids {
			kidW, _ := m.typ(n.Kids[i])
			all.Add(all.Lsh(all, uint(kidW)), kid(i))
		}
		return all
	case S.Rep:
		all := number(0)
		for range n.Kids[0].Num.V {
			all.Add(all.Lsh(all, uint(w)), kid(1))
		}
		return all
	case S.Call:
		w, signed = m.typ(n.Kids[0])
		x := low(meant(m.value(n.Kids[0], max(w, 4), signed), max(w, 4), signed), 4)
		return new(big.Int).Add(new(big.Int).Lsh(new(big.Int).Sub(number(15), x), 4), x)
	}
	if kinds[n.Kind] == "bb" {
		return truth(m.compared(n))
	}
	v, _ := m.place(n)
	return v
}

// compared reports whether a comparison holds.
func (m model) compared(n S.Node) bool {
	aw, aSigned := m.typ(n.Kids[0])
	bw, bSigned := m.typ(n.Kids[1])
	w, signed := max(aw, bw), aSigned && bSigned
	order := meant(m.value(n.Kids[0], w, signed), w, signed).Cmp(meant(m.value(n.Kids[1], w, signed), w, signed))
	switch n.Kind {
	case S.Lt:
		return order < 0
	case S.Le:
		return order <= 0
	case S.Gt:
		return order > 0
	case S.Ge:
		return order >= 0
	case S.Eq, S.CaseEq:
		return order == 0
	}
	return order != 0
}

// vector returns the number of a vector.
func vector(b api.Bits) *big.Int {
	if b.X != 0 {
		panic(unknown{})
	}
	return new(big.Int).SetUint64(b.V)
}

// place returns the number and the type of a constant with a name, or of a part of it.
func (m model) place(n S.Node) (*big.Int, width.Type) {
	name := n.Name
	if n.Kind == S.Select && n.Kids[0].Kind == S.Name && n.Kids[0].Name == "g" {
		name = "g." + n.Name
	}
	if x, ok := m.env.Names[name]; ok {
		return vector(x.Value), x.Type
	}
	v, x := m.place(n.Kids[0])
	at, part := 0, width.Type{W: 1}
	if n.Kind == S.Select {
		for _, field := range x.Fields {
			if field.Name == n.Name {
				at, part = field.At, field.Type
			}
		}
		return low(new(big.Int).Rsh(v, uint(at)), part.W), part
	}
	at = int(m.own(n.Kids[1]).Int64()) - x.Lsb
	switch n.Kind {
	case S.Slice:
		to := at
		at = int(m.own(n.Kids[2]).Int64()) - x.Lsb
		part.W = to - at + 1
	case S.Part:
		part.W = int(m.own(n.Kids[2]).Int64())
	}
	return low(new(big.Int).Rsh(v, uint(at)), part.W), part
}

// grower makes random constant expressions without a fault.
type grower struct {
	*rand.Rand
	model
}

// written returns a number, of which some bits are not known if odd is true.
func (g grower) written(odd bool) S.Node {
	n := num(bits.Of([]int{1, 2, 3, 4, 5, 8, 31, 32, 33, 64}[g.Intn(10)], g.Uint64()>>g.Intn(64)), g.Intn(2) > 0)
	if odd && g.Intn(3) == 0 {
		n.Num.X = bits.Of(n.Num.W, g.Uint64()&g.Uint64()).V
	}
	return n
}

// leaf returns a number, a constant with a name, or a part of one.
func (g grower) leaf(odd bool) S.Node {
	name := S.Node{Kind: S.Name, Name: []string{"K", "T", "P"}[g.Intn(3)]}
	switch g.Intn(8) {
	case 0:
		return name
	case 1:
		return S.Node{Kind: S.Select, Name: "k", Kids: []S.Node{{Kind: S.Name, Name: "g"}}}
	case 2:
		name = S.Node{Kind: S.Select, Name: []string{"hi", "lo"}[g.Intn(2)], Kids: []S.Node{{Kind: S.Name, Name: "P"}}}
	case 3, 4:
	default:
		return g.written(odd)
	}
	_, x := g.place(name)
	at := g.Intn(x.W)
	w := 1 + g.Intn(x.W-at)
	whole := func(v int) S.Node { return num(bits.Of(32, uint64(v)), true) }
	switch g.Intn(4) {
	case 0:
		return S.Node{Kind: S.Index, Kids: []S.Node{name, whole(x.Lsb + at)}}
	case 1:
		return S.Node{Kind: S.Slice, Kids: []S.Node{name, whole(x.Lsb + at + w - 1), whole(x.Lsb + at)}}
	case 2:
		return S.Node{Kind: S.Part, Kids: []S.Node{name, whole(x.Lsb + at), whole(w)}}
	}
	return name
}

// expr returns an expression.
func (g grower) expr(depth int, odd bool) S.Node {
	if depth == 0 {
		return g.leaf(odd)
	}
	n := S.Node{Kind: S.Call + g.Intn(S.Now-S.Call)}
	count := len(kinds[n.Kind])
	switch n.Kind {
	case S.Call:
		n.Name, count = "f", 1
	case S.Signed, S.Unsigned, S.Width:
		count = 1
	case S.Log:
		if odd {
			return S.Node{Kind: S.Log, Kids: []S.Node{g.written(false)}}
		}
		count = 1
	case S.Cat:
		count = 1 + g.Intn(3)
	case S.Size, S.Rep:
		n.Kids = []S.Node{num(bits.Of(8, uint64(1+g.Intn(12))), g.Intn(2) > 0)}
		count = 1
	}
	for range count {
		n.Kids = append(n.Kids, g.expr(g.Intn(depth), odd))
	}
	if w, _ := g.typ(n); w > api.MaxWidth {
		return g.leaf(odd)
	}
	return n
}

// trials calls f with growers.
func trials(n int, f func(g grower)) {
	for seed := range int64(n) {
		f(grower{rand.New(rand.NewSource(seed)), model{env()}})
	}
}

// count counts the kinds of the nodes of a tree.
func count(n S.Node, counts map[int]int) {
	S.Walk(n, func(n S.Node) bool { counts[n.Kind]++; return true })
}

// P11.1: values and signs against the model, and at least their types if the model does not know them.
func TestAgainstModel(t *testing.T) {
	counts, lost := map[int]int{}, 0
	trials(30000, func(g grower) {
		n := g.expr(1+g.Intn(6), false)
		w, signed := g.typ(n)
		b, s, e := fold.Value(n, env())
		var want *big.Int
		known := knows(func() { want = g.own(n) })
		if !known {
			lost++
			if value := b.W == w && s == signed && e == api.OK; !value && (b != (api.Bits{}) || s || e != api.ErrConst) {
				t.Fatalf("%s, %v, error %d, not %d bits, %v: %+v", states(b), s, e, w, signed, n)
			}
			return
		}
		if e != api.OK || b.W != w || s != signed || b.X != 0 || want.Cmp(number(0).SetUint64(b.V)) != 0 {
			t.Fatalf("%s, %v, error %d, not %d in %d bits, %v: %+v", states(b), s, e, want, w, signed, n)
		}
		count(n, counts)
	})
	for kind := S.Num; kind < S.Now; kind++ {
		if counts[kind] < 200 {
			t.Errorf("kind %d came %d times", kind, counts[kind])
		}
	}
	if lost > 6000 {
		t.Errorf("%d expressions are not known", lost)
	}
}
