package machine_test

import (
	"fmt"
	"math/rand"
	"slices"
	"strings"
)

// values has the values of vectors, by their names.
type values map[string]uint64

// term is an expression: its text, and its value.
type term struct {
	text  string
	value func(now values) uint64
}

// deed is a statement: its text, and what it does to temporaries at once and to registers later.
type deed struct {
	text string
	do   func(now, later values)
}

// vector is something of a source that can be read.
type vector struct {
	name string
	w    int
}

// register is a register of a source.
type register struct {
	vector
	init     uint64
	proc     int
	put      bool // there is a Put to it
	constant bool // and all of them give it a constant as a whole
}

// process is a Seq process of a source, with the bits that it reads.
type process struct {
	deed
	reads map[string]bool
}

// source is a random source: its text, the names of all bits that can be free, in order, the Seq processes, of which the first one has the number 1, and their registers.
type source struct {
	text      string
	bits      []string
	registers []*register
	procs     []process
}

// grower makes random sources of accepted designs.
type grower struct {
	*rand.Rand
	source
	known []vector // what can be read
	reads map[string]bool
	own   []*register // those to which the process can have Puts
	temp  vector      // the variable that it can set
	fall  bool        // the kind of the reset
}

// grown returns a random source.
func grown(seed int64) source {
	g := &grower{Rand: rand.New(rand.NewSource(seed)), reads: map[string]bool{}}
	g.fall = g.Intn(2) == 0
	for _, v := range []vector{{"rst", 1}, {"a", 1}, {"x", 4}, {"y", 2}, {"w", 2}} {
		g.declare(v)
	}
	// The reset is read by processes that have it.
	g.known = g.known[1:]
	list := []string{"wire [1:0] w; assign w = y ^ x[2:1]; property p (rise clk) 1 -> 1;"}
	procs := 1 + g.Intn(3)
	for i := range 1 + g.Intn(4) {
		list = append(list, g.register(i, g.Intn(procs)))
	}
	list = append(list, "var [1:0] n = 1; var t0; var [1:0] t1; var t2; var [3:0] v;")
	g.declare(vector{"n", 2})
	for i := range procs {
		list = append(list, g.seq(i))
	}
	g.own = nil
	list = append(list, "seq (rise clk) n <= n + "+g.vec(2, 2).text+";")
	list = append(list, "assign q = "+g.vec(8, 3).text+";")
	g.temp = vector{"v", 4}
	list = append(list, "comb { v = 0; "+g.stmt(3).text+g.stmt(3).text+"} assign z = v;")
	list = append(list, "property r (rise clk) "+g.bit(2).text+" -> ["+g.bit(2).text+" then (1) "+g.bit(2).text+"];")
	g.text = "module top (in clk, in rst, in a, in [3:0] x, in [1:0] y, out [7:0] q, out [3:0] z) {\n" +
		"function [1:0] f([3:0] v) { f = v[1:0] ^ v[3:2]; }\n" + strings.Join(list, "\n") + "\n}\n"
	return g.source
}

// declare adds a vector that can be read.
func (g *grower) declare(v vector) {
	g.known = append(g.known, v)
	for i := range v.w {
		g.bits = append(g.bits, bitName(v, i))
	}
}

// bitName returns the name of a bit.
func bitName(v vector, i int) string {
	if v.w == 1 {
		return v.name
	}
	return fmt.Sprintf("%s[%d]", v.name, i)
}

// read notes that bits are read.
func (g *grower) read(v vector, from, n int) {
	for i := range n {
		g.reads[bitName(v, from+i)] = true
	}
}

// register adds a register of a process.
func (g *grower) register(i, proc int) string {
	r := &register{vector{fmt.Sprint("r", i), 1 + g.Intn(3)}, 0, proc, false, true}
	if g.Intn(8) == 0 {
		r.w += 3
	}
	r.init = g.Uint64() & mask(r.w)
	g.registers = append(g.registers, r)
	g.declare(r.vector)
	return fmt.Sprintf("var [%d:0] %s = %d;", r.w-1, r.name, r.init)
}

func mask(w int) uint64 { return 1<<w - 1 }

// seq adds a Seq process.
func (g *grower) seq(i int) string {
	g.own = nil
	for _, r := range g.registers {
		if r.proc == i {
			g.own = append(g.own, r)
		}
	}
	outside := g.known
	g.temp = vector{fmt.Sprint("t", i), 1 + i%2}
	first := g.set()
	g.known = append(slices.Clone(g.known), g.temp)
	list := []deed{first}
	for range 1 + g.Intn(4) {
		list = append(list, g.stmt(3))
	}
	for _, r := range g.own {
		if !r.put {
			list = append(list, g.put(r))
		}
	}
	d, edges := block(list), "rise clk"
	if g.Intn(3) == 0 {
		d, edges = g.reset(d)
	}
	g.known = outside
	for k := range g.temp.w {
		delete(g.reads, bitName(g.temp, k))
	}
	g.procs = append(g.procs, process{d, g.reads})
	g.reads = map[string]bool{}
	return "seq (" + edges + ") " + d.text
}

// reset returns a statement that gives all registers of the process constants while the reset is active, and the edges.
func (g *grower) reset(d deed) (deed, string) {
	var list []deed
	for _, r := range g.own {
		list = append(list, g.put(r))
	}
	first := block(list)
	g.reads["rst"] = true
	text, edge, active := "rst", "rise rst", uint64(1)
	if g.fall {
		text, edge, active = "!rst", "fall rst", 0
	}
	return deed{"if (" + text + ") " + first.text + "else " + d.text, func(now, later values) {
		if now["rst"] == active {
			first.do(now, later)
		} else {
			d.do(now, later)
		}
	}}, "rise clk, " + edge
}

// block returns the Block of statements.
func block(list []deed) deed {
	text := "{ "
	for _, d := range list {
		text += d.text
	}
	return deed{text + "} ", func(now, later values) {
		for _, d := range list {
			d.do(now, later)
		}
	}}
}

// put returns a Put of a constant.
func (g *grower) put(r *register) deed {
	n := g.Uint64() & mask(r.w)
	r.put = true
	return deed{fmt.Sprintf("%s <= %d'd%d; ", r.name, r.w, n), func(_, later values) { later[r.name] = n }}
}

// other returns a Put after which its registers are no machines; what it does does not matter then.
func (g *grower) other(r *register) deed {
	list, text := []*register{r}, ""
	k := g.own[g.Intn(len(g.own))]
	switch n := g.Intn(3); {
	case n == 0:
		text = r.name + "[0] <= " + g.bit(1).text + "; "
	case n == 1 && k != r:
		list = append(list, k)
		text = "cat(" + r.name + ", " + k.name + ") <= 3; "
	default:
		text = r.name + " <= " + g.vec(r.w, 1).text + " + 0; "
	}
	for _, r := range list {
		r.put, r.constant = true, false
	}
	return deed{text, func(_, _ values) {}}
}

// set returns a Set of the variable.
func (g *grower) set() deed {
	v, e := g.temp, g.vec(g.temp.w, 2)
	return deed{v.name + " = " + e.text + "; ", func(now, _ values) { now[v.name] = e.value(now) }}
}

// stmt returns a statement.
func (g *grower) stmt(depth int) deed {
	switch n := g.Intn(12); {
	case depth > 0 && n < 4:
		return g.branch(depth - 1)
	case depth > 0 && n < 6:
		return g.choice(depth - 1)
	case depth > 0 && n < 7:
		return block([]deed{g.stmt(depth - 1), g.stmt(depth - 1)})
	case n < 8:
		return g.set()
	case n < 9:
		return deed{"; ", func(_, _ values) {}}
	}
	if len(g.own) == 0 {
		return g.set()
	}
	r := g.own[g.Intn(len(g.own))]
	if g.Intn(25) == 0 {
		return g.other(r)
	}
	return g.put(r)
}

// branch returns an If.
func (g *grower) branch(depth int) deed {
	e, a := g.bit(2), g.stmt(depth)
	text, b := "if ("+e.text+") { "+a.text+"} ", deed{"", func(_, _ values) {}}
	if g.Intn(2) == 0 {
		b = g.stmt(depth)
		text += "else " + b.text
	}
	return deed{text, func(now, later values) {
		if e.value(now) != 0 {
			a.do(now, later)
		} else {
			b.do(now, later)
		}
	}}
}

// choice returns a Case.
func (g *grower) choice(depth int) deed {
	w := 1 + g.Intn(3)
	e := g.vec(w, 1)
	word := []string{"case", "casez"}[g.Intn(2)]
	text := word + " (" + e.text + ") { "
	var list []func(now, later values, n uint64) bool
	for range 1 + g.Intn(4) {
		match, care, d := g.Uint64()&mask(w), mask(w), g.stmt(depth)
		if word == "casez" {
			care = g.Uint64() & mask(w)
		}
		text += fmt.Sprintf("%d'b%s: %s", w, pattern(match, care, w), d.text)
		list = append(list, func(now, later values, n uint64) bool {
			if (n^match)&care != 0 {
				return false
			}
			d.do(now, later)
			return true
		})
	}
	other := deed{"", func(_, _ values) {}}
	if g.Intn(2) == 0 {
		other = g.stmt(depth)
		text += "default: " + other.text
	}
	return deed{text + "} ", func(now, later values) {
		n := e.value(now)
		for _, item := range list {
			if item(now, later, n) {
				return
			}
		}
		other.do(now, later)
	}}
}

// pattern returns the digits of a pattern.
func pattern(match, care uint64, w int) string {
	var text string
	for i := w - 1; i >= 0; i-- {
		switch {
		case care>>i&1 == 0:
			text += "z"
		default:
			text += fmt.Sprint(match >> i & 1)
		}
	}
	return text
}

// bit returns an expression of one bit.
func (g *grower) bit(depth int) term {
	if depth == 0 || g.Intn(3) == 0 {
		v := g.known[g.Intn(len(g.known))]
		i := g.Intn(v.w)
		g.read(v, i, 1)
		return term{bitName(v, i), func(now values) uint64 { return now[v.name] >> i & 1 }}
	}
	kid := func() term { return g.bit(depth - 1) }
	switch g.Intn(7) {
	case 0:
		a := kid()
		return term{"!" + a.text, func(now values) uint64 { return 1 - a.value(now) }}
	case 1:
		return both(kid(), "&&", kid(), func(a, b uint64) uint64 { return a & b })
	case 2:
		return both(kid(), "||", kid(), func(a, b uint64) uint64 { return a | b })
	case 3:
		x, y := vector{"x", 4}, vector{"y", 2}
		g.read(x, 0, 4)
		g.read(y, 0, 2)
		return term{"x[y]", func(now values) uint64 { return now["x"] >> now["y"] & 1 }}
	case 4:
		w := 1 + g.Intn(3)
		return both(g.vec(w, depth-1), "<", g.vec(w, depth-1), func(a, b uint64) uint64 { return truth(a < b) })
	}
	w := 1 + g.Intn(3)
	return both(g.vec(w, depth-1), "==", g.vec(w, depth-1), func(a, b uint64) uint64 { return truth(a == b) })
}

// truth returns 1 for true.
func truth(b bool) uint64 {
	if b {
		return 1
	}
	return 0
}

// both returns an operation.
func both(a term, sign string, b term, f func(a, b uint64) uint64) term {
	return term{"(" + a.text + " " + sign + " " + b.text + ")", func(now values) uint64 { return f(a.value(now), b.value(now)) }}
}

// vec returns an expression of some bits.
func (g *grower) vec(w, depth int) term {
	kid := func() term { return g.vec(w, depth-1) }
	switch n := g.Intn(12); {
	case n == 0 && depth > 0:
		return both(kid(), "+", kid(), func(a, b uint64) uint64 { return (a + b) & mask(w) })
	case n == 1 && depth > 0:
		return both(kid(), "^", kid(), func(a, b uint64) uint64 { return a ^ b })
	case n == 2 && depth > 0:
		e, a, b := g.bit(depth-1), kid(), kid()
		return term{"(" + e.text + " ? " + a.text + " : " + b.text + ")", func(now values) uint64 {
			if e.value(now) != 0 {
				return a.value(now)
			}
			return b.value(now)
		}}
	case n < 5 && w == 2 && depth > 0:
		a := g.vec(4, depth-1)
		return term{"f(" + a.text + ")", func(now values) uint64 { return a.value(now)&3 ^ a.value(now)>>2 }}
	case n < 8 && w > 1 || w > 4:
		low := 1 + g.Intn(w-1)
		a, b := g.vec(w-low, depth), g.vec(low, depth)
		return term{"cat(" + a.text + ", " + b.text + ")", func(now values) uint64 { return a.value(now)<<low | b.value(now) }}
	case n < 11:
		if v := g.known[g.Intn(len(g.known))]; v.w >= w {
			return g.part(v, w)
		}
	}
	k := g.Uint64() & mask(w)
	return term{fmt.Sprintf("%d'd%d", w, k), func(values) uint64 { return k }}
}

// part returns some bits of a vector.
func (g *grower) part(v vector, w int) term {
	at := g.Intn(v.w - w + 1)
	g.read(v, at, w)
	text := v.name
	if w < v.w {
		text = fmt.Sprintf("%s[%d:%d]", v.name, at+w-1, at)
	}
	return term{text, func(now values) uint64 { return now[v.name] >> at & mask(w) }}
}
