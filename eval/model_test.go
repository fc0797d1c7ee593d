package eval_test

import (
	"math/big"
	"slices"
	"strings"

	"maskwright/api"
	"maskwright/bits"
	"maskwright/eval"
)

// memory has the states of elements as texts, by the numbers of the signal and of the element.
type memory map[[2]int]string

// model says what chapter 9 says, with texts of states. An error is a panic, and nothing is done faster than one bit at a time.
type model struct {
	d     api.Design
	now   uint64
	turns int
	puts  []eval.Put
	ones  map[int]func(a api.Bits) api.Bits
	twos  map[int]func(a, b api.Bits, signed bool) api.Bits
	seen  map[int]bool // operations of expressions, and 100 plus those of statements
}

// newModel returns a model of a design.
func newModel(d api.Design, seen map[int]bool) *model {
	type pair = func(a, b api.Bits, signed bool) api.Bits
	plain := func(f func(a, b api.Bits) api.Bits) pair {
		return func(a, b api.Bits, _ bool) api.Bits { return f(a, b) }
	}
	m := &model{d: d, seen: seen, ones: map[int]func(a api.Bits) api.Bits{
		api.Not: bits.Not, api.Neg: bits.Neg, api.RedAnd: bits.RedAnd, api.RedOr: bits.RedOr, api.RedXor: bits.RedXor, api.LNot: bits.LNot,
	}}
	m.twos = map[int]pair{
		api.LAnd: plain(bits.LAnd), api.LOr: plain(bits.LOr), api.And: plain(bits.And), api.Or: plain(bits.Or), api.Xor: plain(bits.Xor),
		api.Add: plain(bits.Add), api.Sub: plain(bits.Sub), api.Mul: plain(bits.Mul), api.Shl: plain(bits.Shl), api.Shr: plain(bits.Shr), api.Sar: plain(bits.Sar),
		api.Eq: plain(bits.Eq), api.Ne: plain(bits.Ne), api.CaseEq: plain(bits.CaseEq), api.CaseNe: plain(bits.CaseNe),
		api.Div: bits.Div, api.Mod: bits.Mod, api.Lt: bits.Lt, api.Le: bits.Le,
	}
	return m
}

// guarded runs f, and returns the error with which it ended.
func guarded(f func()) (e api.Errno) {
	defer func() {
		if x := recover(); x != nil {
			e = x.(api.Errno)
		}
	}()
	f()
	return api.OK
}

// memoryOf returns the memory of a state.
func memoryOf(s eval.State) memory {
	mem := memory{}
	for i, list := range s.Sigs {
		for k, b := range list {
			mem[[2]int{i, k}] = show(b)
		}
	}
	return mem
}

// stateOf returns the state of a memory.
func stateOf(d api.Design, now uint64, mem memory) eval.State {
	s := eval.State{Now: now}
	for i, x := range d.Signals {
		var list []api.Bits
		for k := range x.Elems {
			list = append(list, vec(mem[[2]int{i, k}]))
		}
		s.Sigs = append(s.Sigs, list)
	}
	return s
}

// number returns the number of states that are all known.
func number(states string, signed bool) (*big.Int, bool) {
	n, ok := new(big.Int).SetString(states, 2)
	if ok && signed && states[0] == '1' {
		n.Sub(n, new(big.Int).Lsh(big.NewInt(1), uint(len(states))))
	}
	return n, ok
}

// value returns the value of an expression.
func (m *model) value(mem memory, e api.Expr) string {
	m.seen[e.Op] = true
	var kids []string
	for _, kid := range e.Kids {
		kids = append(kids, m.value(mem, kid))
	}
	switch e.Op {
	case api.Const:
		return show(e.N)
	case api.Now:
		return show(api.Bits{W: 64, V: m.now})
	case api.Ref:
		return mem[[2]int{e.Sig, 0}]
	case api.Elem:
		n, ok := number(kids[0], e.Kids[0].Signed)
		for place, states := range mem {
			if ok && place[0] == e.Sig && n.Cmp(big.NewInt(int64(place[1]))) == 0 {
				return states
			}
		}
		return strings.Repeat("x", e.W)
	case api.Slice:
		end := len(kids[0]) - e.At
		return kids[0][end-e.W : end]
	case api.Part:
		return m.part(kids, e)
	case api.Cat:
		return strings.Join(kids, "")
	case api.Rep:
		return strings.Repeat(kids[0], e.At)
	case api.Resize:
		fill := "0"
		if e.Signed {
			fill = kids[0][:1]
		}
		long := strings.Repeat(fill, 64) + kids[0]
		return long[len(long)-e.W:]
	case api.Cond:
		return m.cond(kids)
	case api.Call:
		return m.call(e.At, kids)
	}
	if f := m.ones[e.Op]; f != nil {
		return show(f(vec(kids[0])))
	}
	return show(m.twos[e.Op](vec(kids[0]), vec(kids[1]), e.Signed))
}

// part returns the value of a Part.
func (m *model) part(kids []string, e api.Expr) string {
	n, ok := number(kids[1], e.Kids[1].Signed)
	var s []byte
	for i := e.W - 1; i >= 0; i-- {
		c := byte('x')
		for k := range kids[0] {
			if ok && new(big.Int).Add(n, big.NewInt(int64(i))).Cmp(big.NewInt(int64(k))) == 0 {
				c = kids[0][len(kids[0])-1-k]
			}
		}
		s = append(s, c)
	}
	return string(s)
}

// cond returns the value of a Cond.
func (m *model) cond(kids []string) string {
	if strings.Contains(kids[0], "1") {
		return kids[1]
	}
	if strings.Trim(kids[0], "0") == "" {
		return kids[2]
	}
	var s []byte
	for i := range kids[1] {
		c := kids[1][i]
		if c != kids[2][i] || c == 'z' {
			c = 'x'
		}
		s = append(s, c)
	}
	return string(s)
}

// call returns the value of a function.
func (m *model) call(function int, args []string) string {
	f := m.d.Funcs[function]
	mem := memory{}
	for i, x := range f.Vars {
		for k := range x.Elems {
			mem[[2]int{i, k}] = strings.Repeat("x", x.W)
		}
		if i < f.Args {
			mem[[2]int{i, 0}] = args[i]
		}
	}
	m.do(mem, f.Body)
	return mem[[2]int{f.Args, 0}]
}

// turn counts a turn.
func (m *model) turn() {
	m.turns++
	if m.turns > 1000 {
		panic(api.ErrLarge)
	}
}

// do does a statement.
func (m *model) do(mem memory, x api.Stmt) {
	m.seen[100+x.Op] = true
	isTrue := func() bool { return strings.Contains(m.value(mem, x.Args[0]), "1") }
	switch x.Op {
	case api.Nop:
	case api.Block:
		for _, kid := range x.Kids {
			m.do(mem, kid)
		}
	case api.If:
		kids := append(slices.Clone(x.Kids), api.Stmt{})
		if !isTrue() {
			kids = kids[1:]
		}
		m.do(mem, kids[0])
	case api.Case:
		if k := m.choice(mem, x); k >= 0 {
			m.do(mem, x.Items[k].Do)
		}
	case api.While:
		for isTrue() {
			m.turn()
			m.do(mem, x.Kids[0])
		}
	case api.Repeat:
		n, ok := number(m.value(mem, x.Args[0]), x.Args[0].Signed)
		for ; ok && n.Sign() > 0; n.Sub(n, big.NewInt(1)) {
			m.turn()
			m.do(mem, x.Kids[0])
		}
	case api.Set, api.Put:
		m.assign(mem, x)
	default:
		panic(api.ErrState)
	}
}

// choice returns the number of the item that is done, or -1.
func (m *model) choice(mem memory, x api.Stmt) int {
	subject := vec(m.value(mem, x.Args[0]))
	for i, item := range x.Items {
		for _, e := range item.Match {
			if bits.Fits(subject, vec(m.value(mem, e)), x.Kind) {
				return i
			}
		}
	}
	return slices.IndexFunc(x.Items, func(i api.Item) bool { return len(i.Match) == 0 })
}

// assign does a Set or a Put.
func (m *model) assign(mem memory, x api.Stmt) {
	if x.Op == api.Set && len(x.Args) == 2 {
		panic(api.ErrState)
	}
	b := m.value(mem, x.Args[0])
	list := m.places(mem, x.To, b)
	for _, p := range list {
		if x.Op == api.Set {
			place := [2]int{p.Sig, p.Elem}
			old := []byte(mem[place])
			for i := range p.B.W {
				if k := p.At + i; k >= 0 && k < len(old) {
					old[len(old)-1-k] = show(p.B)[p.B.W-1-i]
				}
			}
			mem[place] = string(old)
			continue
		}
		m.puts = append(m.puts, p)
	}
	if len(x.Args) < 2 {
		return
	}
	after, ok := number(m.value(mem, x.Args[1]), false)
	for i := range list {
		if ok {
			m.puts[len(m.puts)-1-i].After = after.Uint64()
		}
	}
}

// places returns the assignments of a target.
func (m *model) places(mem memory, to api.Expr, b string) []eval.Put {
	if to.Op == api.Cat {
		var list []eval.Put
		for _, kid := range to.Kids {
			list = append(list, m.places(mem, kid, b[:kid.W])...)
			b = b[kid.W:]
		}
		return list
	}
	whole, from, ok := to, big.NewInt(int64(to.At)), true
	if to.Op == api.Slice || to.Op == api.Part {
		whole = to.Kids[0]
	}
	if to.Op == api.Part {
		from, ok = number(m.value(mem, to.Kids[1]), to.Kids[1].Signed)
	}
	k, there := big.NewInt(0), true
	if whole.Op == api.Elem {
		k, there = number(m.value(mem, whole.Kids[0]), whole.Kids[0].Signed)
	}
	if !ok || !there || !k.IsInt64() || !from.IsInt64() {
		return nil
	}
	p := eval.Put{Sig: whole.Sig, Elem: int(k.Int64()), At: int(from.Int64()), B: vec(b)}
	for i := range whole.W {
		if _, there := mem[[2]int{p.Sig, p.Elem}]; there && i-p.At >= 0 && i-p.At < len(b) {
			return []eval.Put{p}
		}
	}
	return nil
}
