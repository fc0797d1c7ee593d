package lint

import (
	"maps"
	"slices"

	"maskwright/api"
	"maskwright/bits"
	"maskwright/design"
	"maskwright/walk"
)

// action is what a process does with signals: the bits that it reads and drives, and the signals to which it has a Set or a Put.
type action struct {
	reads, drives []design.Piece
	sets, puts    map[int]bool
}

// actions returns what the processes of a valid design do.
func actions(d api.Design) []action {
	var list []action
	for i, p := range d.Procs {
		// A design with this process alone is much smaller to look at.
		alone := d
		alone.Procs, alone.Props = d.Procs[i:i+1], nil
		list = append(list, action{
			design.Reads(alone, 0), design.Drives(alone, 0), named(p.Body, api.Set), named(p.Body, api.Put),
		})
	}
	return list
}

// named returns the signals that the targets of all statements of an operation name.
func named(s api.Stmt, op int) map[int]bool {
	found := map[int]bool{}
	walk.Stmts(s, func(s api.Stmt) {
		if s.Op != op {
			return
		}
		walk.Targets(s, func(e api.Expr) {
			whole, _ := walk.Whole(e)
			found[whole.Sig] = true
		})
	})
	return found
}

// registers returns the variables to which Seq processes have a Put, in order.
func registers(procs []api.Proc, acts []action) []int {
	found := map[int]bool{}
	for i, a := range acts {
		if procs[i].Kind == api.Seq {
			maps.Copy(found, a.puts)
		}
	}
	return slices.Sorted(maps.Keys(found))
}

// states looks at the values with which registers begin, and at their size.
func (c *checker) states() {
	size := 0
	for _, i := range registers(c.Procs, c.acts) {
		s := c.Signals[i]
		size += s.W * s.Elems
		if len(s.Init) == 0 || slices.ContainsFunc(s.Init, isUnknown) {
			c.breaks(Unknown, nowhere, i)
		}
	}
	if size > api.MaxState {
		c.breaks(Size, nowhere, -1)
	}
}

// isUnknown reports whether a bit of a vector is not known.
func isUnknown(b api.Bits) bool {
	return !bits.Known(b)
}
