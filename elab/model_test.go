package elab_test

import (
	"fmt"
	"maps"
	"slices"
	"strings"
	"testing"

	"maskwright/api"
	"maskwright/bits"
	"maskwright/elab"
	"maskwright/fold"
	S "maskwright/syntax"
	"maskwright/width"
)

// flattener rewrites a source as one module without instances, blocks, loops, interfaces and parameters: what a name stands for is written in its place, so that no names hide each other. Names are paths, with colons instead of points.
type flattener struct {
	file   map[string]S.Node // modules and interfaces
	global names             // what is written in place of the names of the file
	out    []S.Node          // what is written of the file, and then of the module
	procs  []string          // the prefixes of the processes
	values map[string]width.Thing
	shapes map[string]shape // of all signals that are no arrays, and of all types ("type x")
}

// shape is the width and the sign of a signal or a type.
type shape struct {
	w      int
	signed bool
}

// names says what is written in place of names: of constants and signals, types ("type x"), functions ("call x") and signals of groups ("x.y").
type names map[string]S.Node

// oops is a panic with which the model gives up.
type oops string

// otherSign is what no source without hierarchy can say: a name of a signal with another sign.
const otherSign = oops("a port with another sign than its signal")

// hide takes a name away.
func (n names) hide(name string) {
	for s := range n {
		if s == name || s == "type "+name || s == "call "+name || strings.HasPrefix(s, name+".") {
			delete(n, s)
		}
	}
}

// set writes something in place of a name of a class.
func (n names) set(class, name string, x S.Node) {
	n.hide(name)
	n[class+name] = x
}

// get returns what is written in place of a name.
func (n names) get(name string) S.Node {
	x, ok := n[name]
	if !ok {
		panic(oops("no " + name))
	}
	return x
}

func nameOf(kind int, s string) S.Node { return S.Node{Kind: kind, Name: s} }

func numOf(v int64) S.Node {
	return S.Node{Kind: S.Num, Num: bits.Of(32, uint64(v)), Signed: true}
}

// in returns a tree in which names are replaced, and loops written out.
func (f *flattener) in(n names, x S.Node) S.Node {
	switch x.Kind {
	case S.Name:
		return n.get(x.Name)
	case S.TypeName:
		return n.get("type " + x.Name)
	case S.Call:
		x.Name = n.get("call " + x.Name).Name
	case S.Select:
		if to, ok := n[x.Kids[0].Name+"."+x.Name]; ok && x.Kids[0].Kind == S.Name {
			return to
		}
	case S.ForUp, S.ForDown:
		return f.turns(n, x)
	}
	kids := x.Kids
	x.Kids = nil
	for _, kid := range kids {
		x.Kids = append(x.Kids, f.in(n, kid))
	}
	return x
}

// turns writes out a loop of statements.
func (f *flattener) turns(n names, x S.Node) S.Node {
	first, last, by := f.number(n, x.Kids[0]), f.number(n, x.Kids[1]), int64(1)
	if x.Kind == S.ForDown {
		by = -1
	}
	block := S.Node{Kind: S.Block}
	for i := first; (last-i)*by >= 0; i += by {
		in := maps.Clone(n)
		in.set("", x.Name, numOf(i))
		block.Kids = append(block.Kids, f.in(in, x.Kids[2]))
	}
	return block
}

// value returns the value of a constant in which names were replaced.
func (f *flattener) value(x S.Node) width.Thing {
	b, signed, e := fold.Value(x, width.Env{Names: f.values})
	if e != api.OK {
		panic(oops(fmt.Sprint("no constant, error ", e)))
	}
	return width.Thing{Kind: width.Const, Value: b, Type: width.Type{W: b.W, Signed: signed}}
}

// number returns the number of a constant.
func (f *flattener) number(n names, x S.Node) int64 {
	t := f.value(f.in(n, x))
	if t.Type.Signed {
		v, _ := bits.Int(t.Value)
		return v
	}
	return int64(t.Value.V)
}

// typ returns a type in which names were replaced, and its shape.
func (f *flattener) typ(n names, x S.Node) (S.Node, shape) {
	to := f.in(n, x)
	if to.Kind == S.TypeName {
		return to, f.shapes["type "+to.Name]
	}
	s := shape{1, x.Signed}
	if r := x.Kids[0]; r.Kind != S.None {
		s.w = int(f.number(n, r.Kids[0])-f.number(n, r.Kids[1])) + 1
	}
	return to, s
}

// write writes a node with kids.
func (f *flattener) write(kind int, name string, kids ...S.Node) {
	f.out = append(f.out, S.Node{Kind: kind, Name: name, Kids: kids})
}

// constant writes a constant, of which the value was replaced.
func (f *flattener) constant(n names, prefix, name string, x S.Node) {
	f.values[prefix+name] = f.value(x)
	f.write(S.Const, prefix+name, x)
	n.set("", name, nameOf(S.Name, prefix+name))
}

// enum writes an enumeration.
func (f *flattener) enum(n names, prefix string, x S.Node) {
	w := int(f.number(n, x.Kids[0].Kids[0])-f.number(n, x.Kids[0].Kids[1])) + 1
	kids := []S.Node{f.in(n, x.Kids[0])}
	f.shapes["type "+prefix+x.Name] = shape{w, false}
	n.set("type ", x.Name, nameOf(S.TypeName, prefix+x.Name))
	next := int64(0)
	for _, item := range x.Kids[1:] {
		to := S.Node{Kind: S.EnumItem, Name: prefix + item.Name, Kids: []S.Node{f.in(n, item.Kids[0])}}
		if item.Kids[0].Kind != S.None {
			next = f.number(n, item.Kids[0])
		}
		kids = append(kids, to)
		f.values[to.Name] = width.Thing{Kind: width.Const, Value: bits.Of(w, uint64(next)), Type: width.Type{W: w}}
		n.set("", item.Name, nameOf(S.Name, to.Name))
		next++
	}
	f.write(S.Enum, prefix+x.Name, kids...)
}

// definition writes what can be an item and a member.
func (f *flattener) definition(n names, prefix string, x S.Node) {
	switch x.Kind {
	case S.Const:
		f.constant(n, prefix, x.Name, f.in(n, x.Kids[0]))
	case S.Enum:
		f.enum(n, prefix, x)
	case S.Struct:
		var kids []S.Node
		sum := 0
		for _, field := range x.Kids {
			to, s := f.typ(n, field.Kids[0])
			kids = append(kids, S.Node{Kind: S.Field, Name: field.Name, Kids: []S.Node{to}})
			sum += s.w
		}
		f.shapes["type "+prefix+x.Name] = shape{sum, false}
		f.write(S.Struct, prefix+x.Name, kids...)
		n.set("type ", x.Name, nameOf(S.TypeName, prefix+x.Name))
	default:
		f.function(n, prefix, x)
	}
}

// function writes a function; its arguments and variables keep their names.
func (f *flattener) function(n names, prefix string, x S.Node) {
	in := maps.Clone(n)
	result := f.in(n, x.Kids[0])
	args := S.Node{Kind: S.Args}
	for _, a := range x.Kids[1].Kids {
		args.Kids = append(args.Kids, S.Node{Kind: S.Arg, Name: a.Name, Kids: []S.Node{f.in(n, a.Kids[0])}})
		in.set("", a.Name, nameOf(S.Name, a.Name))
	}
	in.set("", x.Name, nameOf(S.Name, prefix+x.Name))
	inner := S.Node{Kind: S.Inner}
	for _, part := range x.Kids[2].Kids {
		if part.Kind != S.Var {
			inner.Kids = append(inner.Kids, f.in(in, part))
			continue
		}
		to := S.Node{Kind: S.Var, Kids: []S.Node{f.in(in, part.Kids[0])}}
		for _, d := range part.Kids[1:] {
			to.Kids = append(to.Kids, f.in(in, d))
			in.set("", d.Name, nameOf(S.Name, d.Name))
		}
		inner.Kids = append(inner.Kids, to)
	}
	f.write(S.Function, prefix+x.Name, result, args, inner)
	n.set("call ", x.Name, nameOf(S.Call, prefix+x.Name))
}

// signal writes a Wire or Var with one name.
func (f *flattener) signal(n names, prefix, name string, kind int, typ S.Node, s shape, extent, value S.Node) {
	f.write(kind, "", typ, S.Node{Kind: S.Decl, Name: prefix + name, Kids: []S.Node{extent, value}})
	if extent.Kind == S.None {
		f.shapes[prefix+name] = s
	}
	n.set("", name, nameOf(S.Name, prefix+name))
}

// member writes a member.
func (f *flattener) member(n names, prefix string, x S.Node) {
	switch x.Kind {
	case S.Wire, S.Var:
		typ, s := f.typ(n, x.Kids[0])
		for _, d := range x.Kids[1:] {
			extent, value := f.in(n, d.Kids[0]), f.in(n, d.Kids[1])
			f.signal(n, prefix, d.Name, x.Kind, typ, s, extent, value)
			if x.Kind == S.Wire && value.Kind != S.None {
				f.procs = append(f.procs, prefix)
			}
		}
	case S.Assign, S.Comb, S.Seq, S.Always, S.Initial:
		f.out = append(f.out, f.in(n, x))
		f.procs = append(f.procs, prefix)
	case S.PropSame, S.PropNext:
		to := f.in(n, x)
		to.Name = prefix + x.Name
		f.out = append(f.out, to)
		n.hide(x.Name)
	case S.Inst:
		f.inst(n, prefix, x)
	case S.Link:
		f.link(n, prefix, x)
	case S.GenFor:
		first, last := f.number(n, x.Kids[1]), f.number(n, x.Kids[2])
		n.hide(x.Name)
		for i := first; i <= last; i++ {
			in := maps.Clone(n)
			in.set("", x.Kids[0].Name, numOf(i))
			f.members(in, fmt.Sprint(prefix, x.Name, ":", i, ":"), x.Kids[3])
		}
	case S.GenIf:
		f.branch(n, prefix, x)
	default:
		f.definition(n, prefix, x)
	}
}

// members writes the members of a body.
func (f *flattener) members(n names, prefix string, body S.Node) {
	for _, x := range body.Kids {
		f.member(n, prefix, x)
	}
}

// branch writes the members of that branch that is chosen.
func (f *flattener) branch(n names, prefix string, x S.Node) {
	body := x.Kids[len(x.Kids)-1]
	if x.Kind == S.GenIf {
		body = x.Kids[1]
		if f.number(n, x.Kids[0]) == 0 {
			if x.Kids[2].Kind != S.None {
				f.branch(n, prefix, x.Kids[2])
			}
			return
		}
	}
	n.hide(x.Name)
	f.members(maps.Clone(n), prefix+x.Name+":", body)
}

// given returns what is given to names.
func (f *flattener) given(n names, binds S.Node) names {
	given := names{}
	for _, b := range binds.Kids {
		given[b.Name] = f.in(n, b.Kids[0])
	}
	return given
}

// params writes parameters as constants.
func (f *flattener) params(n names, prefix string, params S.Node, given names) {
	for _, p := range params.Kids {
		x, ok := given[p.Name]
		if !ok {
			x = f.in(n, p.Kids[0])
		}
		f.constant(n, prefix, p.Name, x)
	}
}

// link writes the wires of an interface.
func (f *flattener) link(n names, prefix string, x S.Node) {
	face := f.file[x.Kids[0].Name]
	in, own := maps.Clone(f.global), prefix+x.Name+":"
	f.params(in, own, face.Kids[0], f.given(n, x.Kids[1]))
	n.hide(x.Name)
	for _, w := range face.Kids[1].Kids {
		if w.Kind == S.Wire {
			f.member(in, own, w)
			for _, d := range w.Kids[1:] {
				n[x.Name+"."+d.Name] = nameOf(S.Name, own+d.Name)
			}
		}
	}
}

// viewOf returns a view of an interface.
func (f *flattener) viewOf(x S.Node) S.Node {
	for _, v := range f.file[x.Kids[0].Name].Kids[1].Kids {
		if v.Kind == S.View && v.Name == x.Kids[1].Name {
			return v
		}
	}
	panic(oops("no view"))
}

// inst writes a module.
func (f *flattener) inst(n names, prefix string, x S.Node) {
	module := f.file[x.Kids[0].Name]
	in, own := maps.Clone(f.global), prefix+x.Name+":"
	f.params(in, own, module.Kids[0], f.given(n, x.Kids[1]))
	n.hide(x.Name)
	to := map[string]S.Node{}
	for _, b := range x.Kids[2].Kids {
		to[b.Name] = b.Kids[0]
	}
	for _, p := range module.Kids[1].Kids {
		connection, ok := to[p.Name]
		switch p.Kind {
		case S.PortView:
			in.hide(p.Name)
			for _, d := range f.viewOf(p).Kids {
				in[p.Name+"."+d.Name] = n.get(connection.Name + "." + d.Name)
			}
		case S.PortIn:
			typ, s := f.typ(in, p.Kids[0])
			value := f.in(n, connection)
			if name, as := f.plain(value); name != "" && as == s {
				if f.shapes[name] != s {
					panic(otherSign)
				}
				in.set("", p.Name, nameOf(S.Name, name))
				continue
			}
			f.signal(in, own, p.Name, S.Wire, typ, s, S.Node{}, value)
			f.procs = append(f.procs, prefix)
		default:
			typ, s := f.typ(in, p.Kids[0])
			if p.Kind == S.PortVar {
				f.signal(in, own, p.Name, S.Var, typ, s, S.Node{}, f.in(in, p.Kids[1]))
			} else {
				f.signal(in, own, p.Name, S.Wire, typ, s, S.Node{}, S.Node{})
			}
			if ok {
				f.write(S.Assign, "", f.in(n, connection), nameOf(S.Name, own+p.Name))
				f.procs = append(f.procs, prefix)
			}
		}
	}
	f.members(in, own, module.Kids[2])
}

// plain returns the name of the signal that an expression is, if it is one, and the type of the expression.
func (f *flattener) plain(x S.Node) (string, shape) {
	switch x.Kind {
	case S.Plus:
		return f.plain(x.Kids[0])
	case S.Signed, S.Unsigned:
		name, s := f.plain(x.Kids[0])
		return name, shape{s.w, x.Kind == S.Signed}
	case S.Name:
		if s, ok := f.shapes[x.Name]; ok {
			return x.Name, s
		}
	}
	return "", shape{}
}

// top writes the module of the design, and returns its ports.
func (f *flattener) top(module S.Node) []S.Node {
	n := maps.Clone(f.global)
	f.params(n, "", module.Kids[0], names{})
	var ports []S.Node
	port := func(in names, kind int, prefix string, p S.Node, kids ...S.Node) {
		typ, s := f.typ(in, kids[0])
		to := S.Node{Kind: kind, Name: prefix + p.Name, Kids: []S.Node{typ}}
		if kind == S.PortVar {
			to.Kids = append(to.Kids, f.in(in, kids[1]))
		}
		ports = append(ports, to)
		f.shapes[to.Name] = s
	}
	for _, p := range module.Kids[1].Kids {
		if p.Kind != S.PortView {
			port(n, p.Kind, "", p, p.Kids...)
			n.set("", p.Name, nameOf(S.Name, p.Name))
			continue
		}
		in, view := maps.Clone(f.global), f.viewOf(p)
		f.params(in, p.Name+":", f.file[p.Kids[0].Name].Kids[0], names{})
		n.hide(p.Name)
		for _, w := range f.file[p.Kids[0].Name].Kids[1].Kids {
			for _, d := range w.Kids[min(1, len(w.Kids)):] {
				for _, to := range view.Kids {
					if w.Kind == S.Wire && to.Name == d.Name {
						port(in, map[int]int{S.DirIn: S.PortIn, S.DirOut: S.PortOut}[to.Kind], p.Name+":", d, w.Kids[0])
						n[p.Name+"."+d.Name] = nameOf(S.Name, p.Name+":"+d.Name)
					}
				}
			}
		}
	}
	items := f.out
	f.out = nil
	f.members(n, "", module.Kids[2])
	body := f.out
	f.out = items
	return append([]S.Node{{Kind: S.Ports, Kids: ports}}, S.Node{Kind: S.Body, Kids: body})
}

// flat returns a source without hierarchy, and the prefixes of its processes.
func flat(f S.File) (S.File, []string) {
	m := flattener{file: map[string]S.Node{}, global: names{}, values: map[string]width.Thing{}, shapes: map[string]shape{}}
	for _, x := range f.Items {
		if x.Kind == S.Module || x.Kind == S.Interface {
			m.file[x.Name] = x
		} else {
			m.definition(m.global, "::", x)
		}
	}
	parts := m.top(m.file["top"])
	m.write(S.Module, "top", append([]S.Node{{Kind: S.Params}}, parts...)...)
	return S.File{Items: m.out}, m.procs
}

// renamed gives the parts of a design without hierarchy the names that they have in that with it.
func renamed(d api.Design, procs []string) api.Design {
	path := func(s string) string { return strings.ReplaceAll(s, ":", ".") }
	for i, s := range d.Signals {
		d.Signals[i].Name = path(s.Name)
	}
	for i, p := range d.Procs {
		d.Procs[i].Name = path(procs[i]) + p.Name
	}
	for i, p := range d.Props {
		d.Props[i].Name = path(p.Name)
	}
	for i, f := range d.Funcs {
		name := f.Vars[f.Args].Name
		last := strings.LastIndex(name, ":") + 1
		f.Vars[f.Args].Name = name[last:]
		d.Funcs[i].Name = strings.TrimPrefix(path(name[:last]), "..") + f.Name
	}
	return d
}

// modelled returns what flat returns; false if the model gives up.
func modelled(t *testing.T, f S.File) (to S.File, procs []string, ok bool) {
	defer func() {
		if text, is := recover().(oops); is {
			ok = false
			if text != otherSign {
				t.Error(text)
			}
		}
	}()
	to, procs = flat(f)
	return to, procs, true
}

// P12.1, P12.3 to P12.13: a source without hierarchy, which the model writes, gives the same design.
func TestModel(t *testing.T) {
	good, sizes := 0, map[string]int{}
	for seed := range int64(3000) {
		s := source(seed)
		f := tree(t, s)
		d, l, e := elab.Design(f, "top", nil)
		if e != api.OK {
			continue
		}
		to, procs, ok := modelled(t, f)
		if !ok {
			if t.Failed() {
				t.Fatal(seed, s)
			}
			continue
		}
		c, m, e := elab.Design(to, "top", nil)
		if e == api.ErrLarge && S.Check(to) == api.ErrLarge {
			continue
		}
		if e != api.OK || len(l) > 0 || len(m) > 0 {
			t.Fatal(seed, s, e)
		}
		good++
		c = renamed(c, procs)
		if a, b := strings.Join(write(d), "\n"), strings.Join(write(c), "\n"); a != b {
			t.Fatalf("%d: %s\nis\n%s\nnot\n%s", seed, s, a, b)
		}
		count(sizes, f, d)
	}
	if good < 2000 {
		t.Error(good)
	}
	for kind := S.Whole + 1; kind <= S.Now; kind++ {
		// Those that are rarely there, or not at all, stand in the other tests.
		if !slices.Contains(rare, kind) && sizes[fmt.Sprint("kind ", kind)] < 100 {
			t.Error("kind", kind, sizes[fmt.Sprint("kind ", kind)])
		}
	}
	for what, least := range map[string]int{"procs": 8000, "funcs": 500, "props": 1000, "depth 0": 5000, "depth 3": 1000, "depth 6": 100} {
		if sizes[what] < least {
			t.Error(what, sizes[what])
		}
	}
}

// rare has the kinds that random sources do not have.
var rare = []int{S.SeqAnd, S.On, S.RedOr, S.Mod, S.Div, S.Shr, S.Le, S.Gt, S.Ge, S.Ne, S.CaseEq, S.CaseNe, S.LAnd, S.Rep, S.Log, S.Now}

// count counts what designs have.
func count(sizes map[string]int, f S.File, d api.Design) {
	for _, x := range f.Items {
		S.Walk(x, func(n S.Node) bool {
			sizes[fmt.Sprint("kind ", n.Kind)]++
			return true
		})
	}
	for _, s := range d.Signals {
		sizes[fmt.Sprint("depth ", strings.Count(s.Name, "."))]++
	}
	sizes["procs"] += len(d.Procs)
	sizes["funcs"] += len(d.Funcs)
	sizes["props"] += len(d.Props)
}
