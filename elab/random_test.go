package elab_test

import (
	"fmt"
	"math/rand"
	"strings"
)

// Kinds of names in random sources.
const (
	nameConst = iota
	nameWire
	nameVar
	nameRead // a signal that nothing sets
	nameType
	nameFunc
	nameGroup
	nameOther
)

// named is what a name stands for in a random source.
type named struct {
	kind  int
	array bool           // of variables from number 1 to 3
	args  int            // of a function
	face  string         // of a group
	inner map[string]int // of a group: the kinds of its signals
}

// grower writes random sources, of which most have no fault.
type grower struct {
	*rand.Rand
	names map[string]named // all that can be used
	own   map[string]bool  // those of this scope
	next  int
	text  *strings.Builder
	units []unit // modules that can be instantiated
	left  int    // members that can still be written
}

// unit is a module that can be instantiated.
type unit struct {
	name   string
	params []string
	ports  [][2]string // name, and in, out, or the interface
}

// faces are the interfaces, with their wires, and the views with the kinds of what they name.
var faces = map[string]map[string]map[string]int{
	"ia": {"": {"a": nameWire, "b": nameWire, "c": nameWire}, "all": {"a": nameRead, "b": nameWire, "c": nameRead}, "few": {"b": nameRead}, "same": {"a": nameRead, "b": nameWire}},
	"ib": {"": {"a": nameWire, "e": nameWire}, "all": {"e": nameWire, "a": nameRead}, "few": {"a": nameRead}},
}

const faceText = "interface ia #(p = 2, q = p) { view few (in b); wire [p&7:0] a, b; wire signed [q&3:0] c; view all (in a, out b, in c); view same (out b, in a); }\n" +
	"interface ib { wire a; wire [3:0] e; view all (out e, in a); view few (in a); }\n"

func (g *grower) yes() bool { return g.Intn(2) == 0 }

// pick returns one of some texts.
func (g *grower) pick(list ...string) string { return list[g.Intn(len(list))] }

func (g *grower) write(s ...any) { fmt.Fprint(g.text, s...) }

// inner calls f in a scope within this one.
func (g *grower) inner(f func()) {
	names, own := g.names, g.own
	g.names, g.own = map[string]named{}, map[string]bool{}
	for name, x := range names {
		g.names[name] = x
	}
	f()
	g.names, g.own = names, own
}

// fresh returns a name that this scope does not have yet; others around it may.
func (g *grower) fresh() string {
	for range 20 {
		if s := g.pick("a", "b", "c", "d", "e", "f", "g", "h", "k"); !g.own[s] {
			return s
		}
	}
	g.next++
	return fmt.Sprint("x", g.next)
}

// declare declares a name.
func (g *grower) declare(name string, x named) {
	g.names[name] = x
	g.own[name] = true
}

// known returns a name of one of some kinds; nothing if there is none.
func (g *grower) known(kinds ...int) string {
	var list []string
	for _, name := range []string{"a", "b", "c", "d", "e", "f", "g", "h", "k", "ca", "cb", "E", "R", "ea", "eb", "F0", "F1", "F2", "F3"} {
		x, ok := g.names[name]
		for _, kind := range kinds {
			if ok && x.kind == kind {
				list = append(list, name)
			}
			for _, s := range []string{"a", "b", "c", "e"} {
				if k, in := x.inner[s]; ok && x.kind == nameGroup && in && k == kind {
					list = append(list, name+"."+s)
				}
			}
		}
	}
	if len(list) == 0 {
		return ""
	}
	return list[g.Intn(len(list))]
}

// constant returns a constant expression; with small its value is from 0 to 7.
func (g *grower) constant(small bool) string {
	s := g.pick("0", "1", "2", "3", "3'd5", "2'sd1")
	if name := g.known(nameConst); name != "" && g.Intn(3) > 0 {
		s = name
	}
	if g.Intn(3) == 0 {
		s = "(" + s + g.pick(" + ", " - ", " * ", " ^ ", " == ") + g.constant(false) + ")"
	}
	if small {
		return "(" + s + " & 7)"
	}
	return s
}

// typ returns a type.
func (g *grower) typ() string {
	if name := g.known(nameType); name != "" && g.Intn(4) == 0 {
		return name + " "
	}
	return g.pick("", "signed ", "[3:0] ", "signed [3:0] ", "["+g.constant(true)+":0] ")
}

// place returns a place of one of some kinds, which is a whole signal or one or more of its bits.
func (g *grower) place(fixed bool, kinds ...int) string {
	s := g.known(kinds...)
	if s == "" {
		return ""
	}
	if g.names[s].array {
		s += "[" + g.index(fixed) + "]"
	}
	switch g.Intn(6) {
	case 0:
		s += "[0]"
	case 1:
		s += "[0:0]"
	case 2:
		s += "[" + g.pick("0", "0 * 1") + " +: 1]"
	}
	return s
}

// index returns the number of an element.
func (g *grower) index(fixed bool) string {
	if s := g.known(nameWire, nameVar, nameRead); !fixed && s != "" && !g.names[s].array && g.yes() {
		return s + g.pick("", " + 1")
	}
	return g.pick("1", "2", "3", "1 + 1")
}

// expr returns an expression.
func (g *grower) expr(depth int) string {
	if depth <= 0 || g.Intn(5) == 0 {
		if s := g.place(false, nameWire, nameVar, nameRead); s != "" && g.Intn(4) > 0 {
			return s
		}
		return g.constant(false)
	}
	a, b := g.expr(depth-1), g.expr(depth-1)
	switch g.Intn(8) {
	case 0:
		return g.pick("-", "~", "!", "&", "^", "+") + "(" + a + ")"
	case 1:
		return "size(5, cat(size(3, " + a + "), size(4, " + b + ")))"
	case 2:
		return "(" + a + " ? " + b + " : " + g.expr(depth-1) + ")"
	case 3:
		return g.pick("signed", "unsigned", "width") + "(" + a + ")"
	case 4:
		if f := g.known(nameFunc); f != "" {
			return g.call(f, depth-1)
		}
	}
	return "(" + a + g.pick(" + ", " - ", " * ", " & ", " | ", " == ", " < ", " >>> ", " << ", " || ") + b + ")"
}

// call returns a call of a function.
func (g *grower) call(f string, depth int) string {
	var args []string
	for range g.names[f].args {
		args = append(args, g.expr(depth))
	}
	return f + "(" + strings.Join(args, ", ") + ")"
}

// stmt writes a statement of a process of some kind, or of a function; targets are of the kind nameVar.
func (g *grower) stmt(process string, depth int) {
	waits := process == "always" || process == "initial"
	inFunction := process == "function"
	kind := g.Intn(14)
	if depth <= 0 {
		kind = g.Intn(4)
	}
	switch {
	case kind < 4:
		g.assignment(waits, inFunction)
	case kind < 6:
		g.write("{ ")
		for range g.Intn(4) {
			g.stmt(process, depth-1)
		}
		g.write("} ")
	case kind < 8:
		g.write("if (", g.expr(2), ") { ")
		g.stmt(process, depth-1)
		g.write("} ")
		if g.yes() {
			g.write("else ")
			g.stmt(process, depth-1)
		}
	case kind == 8:
		g.write(g.pick("case", "casez", "casex"), " (", g.expr(2), ") { ", g.expr(1), ": ")
		g.stmt(process, depth-1)
		g.write(g.expr(1), ", ", g.expr(0), ": ; default: ")
		g.stmt(process, depth-1)
		g.write("} ")
	case kind == 9:
		g.write(g.pick("while", "repeat"), " (", g.expr(1), ") ")
		g.stmt(process, depth-1)
	case kind < 12:
		g.loop(process, depth)
	case waits:
		g.write(g.pick("delay "+g.expr(1), "wait ("+g.expr(1)+")", "stop"), "; ")
	case !inFunction:
		g.write(g.pick("check("+g.expr(1)+", \"t\"); ", g.pick("show", "write", "strobe", "monitor")+"(\"u\", "+g.expr(2)+"); "))
	default:
		g.write("; ")
	}
}

// assignment writes an assignment to a variable, if there is one.
func (g *grower) assignment(waits, inFunction bool) {
	to := g.place(false, nameVar)
	if to == "" {
		g.write("; ")
		return
	}
	sign := " = "
	if !inFunction && g.yes() {
		sign = " <= "
	}
	after := ""
	if (waits || sign == " <= ") && g.Intn(4) == 0 {
		after = "after (" + g.expr(1) + ") "
	}
	g.write(to, sign, after, g.expr(3), "; ")
}

// loop writes a ForUp or a ForDown.
func (g *grower) loop(process string, depth int) {
	first, last, word := g.constant(true), g.constant(true), g.pick("to", "downto")
	if g.yes() {
		first, last = g.pick("-1", "0", "1"), g.pick("1", "2")
	}
	g.inner(func() {
		name := g.fresh()
		g.write("for (", name, " = ", first, " ", word, " ", last, ") ")
		g.declare(name, named{kind: nameConst})
		g.stmt(process, depth-1)
	})
}

// definition writes what can be an item and a member.
func (g *grower) definition() {
	name := g.fresh()
	switch g.Intn(4) {
	case 0:
		value := g.constant(false)
		g.write("const ", name, " = ", value, ";\n")
		g.declare(name, named{kind: nameConst})
	case 1:
		g.write("enum [", g.constant(true), " + 3:0] ", name, " { ")
		g.declare(name, named{kind: nameType})
		one, two := g.fresh(), g.fresh()
		g.write(one, g.pick("", " = 5"))
		g.declare(one, named{kind: nameConst})
		if two != one {
			g.write(", ", two, g.pick("", " = "+g.constant(true)))
			g.declare(two, named{kind: nameConst})
		}
		g.write(" }\n")
	case 2:
		g.write("struct ", name, " { ", g.typ(), "a; ", g.typ(), "b; }\n")
		g.declare(name, named{kind: nameType})
	default:
		g.function()
	}
}

// function writes a function.
func (g *grower) function() {
	name := fmt.Sprint("F", g.Intn(4))
	if g.own[name] {
		return
	}
	args := g.Intn(3)
	g.write("function ", g.typ(), name, "(")
	outside := g.names
	g.inner(func() {
		for s, x := range g.names {
			if x.kind != nameConst && x.kind != nameType && x.kind != nameFunc {
				delete(g.names, s)
			}
		}
		var declared []string
		for i := range args {
			s := g.fresh()
			g.write(strings.Repeat(", ", min(i, 1)), g.outer(outside, g.typ), s)
			g.own[s] = true
			declared = append(declared, s)
		}
		g.write(") { ")
		for _, s := range append(declared, name) {
			g.declare(s, named{kind: nameVar})
		}
		for range g.Intn(3) {
			s := g.fresh()
			g.write("var ", g.typ(), s, g.pick("", " [1:3]", " = "+g.expr(2)), "; ")
			g.declare(s, named{kind: nameVar, array: strings.HasSuffix(strings.TrimSpace(g.text.String()), "[1:3];")})
		}
		for range g.Intn(3) {
			g.stmt("function", 2)
		}
		g.write("}\n")
	})
	g.declare(name, named{kind: nameFunc, args: args})
}

// outer returns what f returns when other names can be used.
func (g *grower) outer(names map[string]named, f func() string) string {
	now := g.names
	g.names = names
	s := f()
	g.names = now
	return s
}

// member writes a member.
func (g *grower) member(depth int) {
	g.left--
	switch k := g.Intn(16); {
	case k < 4:
		g.declaration()
	case k < 6:
		g.definition()
	case k < 8:
		if to := g.place(true, nameWire); to != "" {
			g.write("assign ", to, " = ", g.expr(3), ";\n")
		}
	case k < 10:
		g.process()
	case k < 12 && len(g.units) > 0:
		g.inst()
	case k == 12:
		g.link(g.pick("ia", "ib"))
	case k == 13:
		if s := g.known(nameWire, nameVar, nameRead); s != "" && !g.names[s].array {
			name := g.fresh()
			g.write("property ", name, " (rise ", s, ") ", g.expr(2), g.pick(" -> ", " => "), g.expr(1), " then (", g.constant(true), ":*) [", g.expr(1), " times (3) or 1];\n")
			g.declare(name, named{kind: nameOther})
		}
	case depth > 0:
		g.generate(depth)
	}
}

// declaration writes wires or variables.
func (g *grower) declaration() {
	kind, word, value := nameWire, "wire ", g.expr(2)
	if g.yes() {
		kind, word, value = nameVar, "var ", g.constant(false)
	}
	a := g.fresh()
	array := g.Intn(4) == 0
	g.write(word, g.typ(), a)
	switch {
	case array:
		g.write(" [1:3]")
	case g.yes():
		g.write(" = ", value)
	}
	g.declare(a, named{kind: kind, array: array})
	if b := g.fresh(); b != a && g.yes() {
		g.write(", ", b)
		g.declare(b, named{kind: kind})
	}
	g.write(";\n")
}

// process writes a process.
func (g *grower) process() {
	word := g.pick("comb", "always", "initial", "seq")
	g.write(word)
	if word == "seq" {
		s := g.known(nameWire, nameVar, nameRead)
		if s == "" || g.names[s].array {
			s = "clk"
		}
		g.write(" (", g.pick("", "rise ", "fall "), s, ")")
	}
	g.write(" ")
	g.stmt(word, 3)
	g.write("\n")
}

// inst writes an instance.
func (g *grower) inst() {
	u := g.units[g.Intn(len(g.units))]
	var params, ports []string
	for _, p := range u.params {
		if g.yes() {
			params = append(params, p+" = "+g.constant(false))
		}
	}
	for _, p := range u.ports {
		switch p[1] {
		case "in":
			value := g.expr(1)
			if s := g.known(nameWire, nameVar, nameRead); s != "" && !g.names[s].array && g.yes() {
				value = g.pick("", "+") + s
			}
			ports = append(ports, p[0]+" = "+value)
		case "out":
			if to := g.place(true, nameWire); to != "" && g.Intn(4) > 0 {
				ports = append(ports, p[0]+" = "+to)
			}
		default:
			s := g.group(p[1])
			if s == "" {
				s = g.link(p[1])
			}
			ports = append(ports, p[0]+" = "+s)
		}
	}
	g.Shuffle(len(ports), func(i, k int) { ports[i], ports[k] = ports[k], ports[i] })
	name := g.fresh()
	g.write("inst ", name, ": ", u.name)
	if len(params) > 0 {
		g.write(" #(", strings.Join(params, ", "), ")")
	}
	g.write(" (", strings.Join(ports, ", "), ");\n")
	g.declare(name, named{kind: nameOther})
}

// group returns the name of a group of an interface.
func (g *grower) group(face string) string {
	for _, s := range []string{"a", "b", "c", "d", "e", "f", "g", "h", "k"} {
		if g.names[s].kind == nameGroup && g.names[s].face == face && g.Intn(3) > 0 {
			return s
		}
	}
	return ""
}

// link writes a Link, and returns its name.
func (g *grower) link(face string) string {
	name := g.fresh()
	g.write("link ", name, ": ", face)
	if face == "ia" && g.yes() {
		g.write(" #(", g.pick("p", "q"), " = ", g.constant(false), ")")
	}
	g.write(";\n")
	g.declare(name, named{kind: nameGroup, face: face, inner: faces[face][""]})
	return name
}

// generate writes a GenFor or a GenIf.
func (g *grower) generate(depth int) {
	block := g.fresh()
	if g.yes() {
		first, last := g.constant(true), g.constant(true)
		if g.yes() {
			first, last = g.pick("0", "1"), "1"
		}
		g.declare(block, named{kind: nameOther})
		g.inner(func() {
			name := g.fresh()
			g.write("for (", name, " = ", first, " to ", last, ") : ", block, " {\n")
			g.declare(name, named{kind: nameConst})
			g.members(depth-1, 3)
			g.write("}\n")
		})
		return
	}
	condition, other := g.constant(false), g.constant(false)
	g.declare(block, named{kind: nameOther})
	g.write("if (", condition, ") : ", block, " {\n")
	g.inner(func() { g.members(depth-1, 3) })
	g.write("}")
	if g.yes() {
		g.write(" else if (", other, ") : ", block, " {\n")
		g.inner(func() { g.members(depth-1, 3) })
		g.write("}")
	}
	if g.yes() {
		g.write(" else : ", block, " {\n")
		g.inner(func() { g.members(depth-1, 3) })
		g.write("}")
	}
	g.write("\n")
}

// members writes up to n members in a scope of their own.
func (g *grower) members(depth, n int) {
	for range g.Intn(n + 1) {
		if g.left > 0 {
			g.member(depth)
		}
	}
}

// module writes a module.
func (g *grower) module(name string) unit {
	u := unit{name: name}
	g.inner(func() {
		g.write("module ", name)
		for i := range g.Intn(3) {
			p := g.fresh()
			g.write([]string{" #(", ", "}[i], p, " = ", g.constant(false))
			g.declare(p, named{kind: nameConst})
			u.params = append(u.params, p)
		}
		if len(u.params) > 0 {
			g.write(")")
		}
		g.write(" (in clk")
		g.declare("clk", named{kind: nameRead})
		u.ports = append(u.ports, [2]string{"clk", "in"})
		for range g.Intn(5) {
			g.port(&u)
		}
		g.write(") {\n")
		for range 2 + g.Intn(9) {
			if g.left > 0 {
				g.member(2)
			}
		}
		g.write("}\n")
	})
	return u
}

// port writes a port, in a list that has begun.
func (g *grower) port(u *unit) {
	p := g.fresh()
	switch g.Intn(6) {
	case 0, 1:
		g.write(", in ", g.typ(), p)
		g.declare(p, named{kind: nameRead})
		u.ports = append(u.ports, [2]string{p, "in"})
	case 2, 3:
		g.write(", out ", g.typ(), p)
		g.declare(p, named{kind: nameWire})
		u.ports = append(u.ports, [2]string{p, "out"})
	case 4:
		g.write(", out var ", g.typ(), p, g.pick("", " = "+g.constant(false)))
		g.declare(p, named{kind: nameVar})
		u.ports = append(u.ports, [2]string{p, "out"})
	default:
		face := g.pick("ia", "ib")
		view := g.pick("all", "few")
		g.write(", ", face, ".", view, " ", p)
		g.declare(p, named{kind: nameGroup, face: face, inner: faces[face][view]})
		u.ports = append(u.ports, [2]string{p, face})
	}
}

// source returns a random source with a module top.
func source(seed int64) string {
	g := &grower{Rand: rand.New(rand.NewSource(seed)), names: map[string]named{}, own: map[string]bool{}, left: 60}
	var parts []string
	part := func(f func()) {
		g.text = &strings.Builder{}
		f()
		parts = append(parts, g.text.String())
	}
	part(func() {
		for range g.Intn(6) {
			g.definition()
		}
	})
	items := parts[0]
	parts = []string{faceText}
	for i := range g.Intn(4) {
		part(func() { g.units = append(g.units, g.module(fmt.Sprint("m", i))) })
	}
	part(func() { g.module("top") })
	g.Shuffle(len(parts), func(i, k int) { parts[i], parts[k] = parts[k], parts[i] })
	return items + strings.Join(parts, "")
}
