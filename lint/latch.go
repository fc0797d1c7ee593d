package lint

import (
	"slices"

	"maskwright/api"
	"maskwright/bits"
	"maskwright/walk"
)

// sure has the bits that are surely set, of each element that is looked at.
type sure []uint64

// follower follows a body with the bits that are surely set.
type follower struct {
	signals []api.Signal
	first   []int         // where the elements of each signal are in a sure; -1 if it is not looked at
	miss    func(sig int) // is told of what is read or left without a value
}

// newFollower returns a follower that looks at some signals, and a sure without bits.
func newFollower(signals []api.Signal, looksAt func(sig int) bool, miss func(int)) (follower, sure) {
	f := follower{signals, make([]int, len(signals)), miss}
	n := 0
	for i, s := range signals {
		f.first[i] = -1
		if looksAt(i) {
			f.first[i] = n
			n += s.Elems
		}
	}
	return f, make(sure, n)
}

// latches looks at the bits that bodies read or leave without a value.
func (c *checker) latches() {
	for i, p := range c.Procs {
		if p.Kind == api.Comb || p.Kind == api.Seq {
			c.latchesOf(i, p)
		}
	}
	for i, f := range c.Funcs {
		follow, now := newFollower(f.Vars, func(int) bool { return true }, func(sig int) { c.breaks(Latch, spot{-1, i}, sig) })
		for k, v := range f.Vars[:f.Args] {
			now[follow.first[k]] = maskOf(v)
		}
		now = follow.stmt(f.Body, now)
		follow.need(now, f.Args, 0, maskOf(f.Vars[f.Args]))
	}
}

// latchesOf looks at a Comb or Seq process.
func (c *checker) latchesOf(i int, p api.Proc) {
	a := c.acts[i]
	follow, now := newFollower(c.Signals, func(sig int) bool { return a.sets[sig] }, func(sig int) { c.breaks(Latch, inProc(i), sig) })
	now = follow.stmt(p.Body, now)
	if p.Kind == api.Seq {
		return
	}
	for _, piece := range a.drives {
		if !a.sets[piece.Sig] {
			follow.miss(piece.Sig)
		}
		follow.need(now, piece.Sig, piece.Elem, piece.Bits)
	}
}

// need tells of a signal that is looked at and has not all bits of a mask.
func (f follower) need(now sure, sig, elem int, mask uint64) {
	if first := f.first[sig]; first >= 0 && mask&^now[first+elem] != 0 {
		f.miss(sig)
	}
}

// stmt follows a statement and returns what is sure after it; now may be changed.
func (f follower) stmt(s api.Stmt, now sure) sure {
	walk.Reads(s, func(e api.Expr) {
		walk.Named(f.signals, e, func(sig, elem int, mask uint64) { f.need(now, sig, elem, mask) })
	})
	switch s.Op {
	case api.Set:
		walk.Targets(s, func(e api.Expr) { f.set(e, now) })
	case api.Block:
		for _, kid := range s.Kids {
			now = f.stmt(kid, now)
		}
	case api.If:
		after := []sure{f.stmt(s.Kids[0], slices.Clone(now))}
		for _, kid := range s.Kids[1:] {
			now = f.stmt(kid, now)
		}
		return common(append(after, now))
	case api.Case:
		var after []sure
		for _, item := range s.Items {
			after = append(after, f.stmt(item.Do, slices.Clone(now)))
		}
		if !isComplete(s) {
			after = append(after, now)
		}
		return common(after)
	case api.While, api.Repeat:
		f.stmt(s.Kids[0], slices.Clone(now))
	}
	return now
}

// set makes the bits sure that a place of a target names, if it is known where they are.
func (f follower) set(e api.Expr, now sure) {
	for _, i := range walk.Indices(e) {
		if i.Op != api.Const {
			return
		}
	}
	walk.Named(f.signals, e, func(sig, elem int, mask uint64) { now[f.first[sig]+elem] |= mask })
}

// common returns the bits that are sure in all of some ways.
func common(ways []sure) sure {
	all := ways[0]
	for _, way := range ways[1:] {
		for i := range all {
			all[i] &= way[i]
		}
	}
	return all
}

// isComplete reports whether an item of a Case is done for each known subject.
func isComplete(s api.Stmt) bool {
	values := map[uint64]bool{}
	for _, item := range s.Items {
		if len(item.Match) == 0 {
			return true
		}
		for _, e := range item.Match {
			if e.Op == api.Const && bits.Known(e.N) {
				values[e.N.V] = true
			}
		}
	}
	w := s.Args[0].W
	return s.Kind == api.Exact && w <= 6 && len(values) == 1<<w
}
