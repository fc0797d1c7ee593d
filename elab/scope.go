package elab

import (
	"maps"

	"maskwright/api"
	"maskwright/bits"
	S "maskwright/syntax"
	"maskwright/width"
)

// Kinds of things.
const (
	label  = iota // a block, an instance, a property, a module: a name that nothing can use
	vector        // a type
	constant
	signal // or a variable of a function
	callable
	bundle
)

// thing is what a name stands for.
type thing struct {
	kind     int
	typ      width.Type  // of a vector
	value    width.Thing // of a constant or a signal: what expressions know of it
	readOnly bool        // of a signal: no target can have this name
	function *function   // of a callable
	group    *group      // of a bundle
}

// group is what the name of an instance of an interface stands for, or that of a port that is connected to one.
type group struct {
	of      string // the interface
	signals map[string]member
}

// member is a signal of a group, which has a direction there.
type member struct {
	value     width.Thing
	direction int
}

// scope has the names that are declared in one part of a source.
type scope struct {
	prefix string
	around *scope // nil for that of the file
	level  int    // modules within one another
	names  map[string]thing
}

// newScope returns a scope without names.
func newScope(prefix string, around *scope) *scope {
	s := &scope{prefix: prefix, around: around, names: map[string]thing{}}
	if around != nil {
		s.level = around.level
	}
	return s
}

// find returns what a name stands for; a label if nothing has it.
func (s *scope) find(name string) thing {
	for ; s != nil; s = s.around {
		if t, ok := s.names[name]; ok {
			return t
		}
	}
	return thing{kind: label}
}

// declare gives a thing the name of a node.
func (s *scope) declare(n S.Node, t thing) {
	s.name(n, n.Name, t)
}

// name gives a thing a name, at a node.
func (s *scope) name(n S.Node, name string, t thing) {
	if _, twice := s.names[name]; twice {
		fail(n, api.ErrTwice, name)
	}
	s.names[name] = t
}

// visible returns all that names stand for now.
func (s *scope) visible() map[string]thing {
	if s == nil {
		return map[string]thing{}
	}
	names := s.around.visible()
	maps.Copy(names, s.names)
	return names
}

// lasting returns a scope with the names that mean the same wherever they are used; what others hide stays hidden.
func (s *scope) lasting() *scope {
	names := s.visible()
	maps.DeleteFunc(names, func(_ string, t thing) bool { return t.kind == signal || t.kind == bundle })
	around := newScope("", nil)
	around.names = names
	return newScope(s.prefix, around)
}

// constantOf returns a constant.
func constantOf(b api.Bits, signed bool) width.Thing {
	return width.Thing{Kind: width.Const, Value: b, Type: width.Type{W: b.W, Signed: signed}}
}

// turn returns the scope of a turn of a loop.
func (s *scope) turn(prefix string, n S.Node, name string, number int64) *scope {
	in := newScope(prefix, s)
	in.name(n, name, thing{kind: constant, value: constantOf(bits.Of(32, uint64(number)), true)})
	return in
}

// enter gives expressions the name of a thing, and for a group those of its signals.
func (t thing) enter(names map[string]width.Thing, name string) {
	switch t.kind {
	case constant, signal:
		names[name] = t.value
	case callable:
		names[name] = t.function.thing()
	case bundle:
		names[name] = width.Thing{Kind: width.Group}
		for selected, x := range t.group.signals {
			names[name+"."+selected] = x.value
		}
	}
}
