package design

import (
	"cmp"
	"maps"
	"slices"

	"maskwright/api"
	"maskwright/walk"
)

// Piece has some bits of an element of a signal.
type Piece struct {
	Sig, Elem int
	Bits      uint64
}

// Reads returns the bits that a process reads, in order of signals and elements.
func Reads(d api.Design, proc int) []Piece {
	return piecesOf(d, proc, func(f *finder, p api.Proc) {
		f.edges(p.Edges)
		walk.Stmts(p.Body, func(s api.Stmt) {
			f.edges(s.Edges)
			walk.Reads(s, f.add)
		})
	})
}

// Drives returns the bits that a process can set.
func Drives(d api.Design, proc int) []Piece {
	return piecesOf(d, proc, func(f *finder, p api.Proc) {
		walk.Stmts(p.Body, func(s api.Stmt) { walk.Targets(s, f.add) })
	})
}

// PropReads returns the bits that the properties of a valid design read.
func PropReads(d api.Design) []Piece {
	if Check(d) != api.OK {
		return nil
	}
	f := newFinder(d)
	read := func(e api.Expr) { walk.Places(e, f.add) }
	for _, p := range d.Props {
		walk.Sequence(p.From, read)
		walk.Sequence(p.To, read)
	}
	return f.pieces()
}

// piecesOf returns the bits that find adds for a process of a valid design.
func piecesOf(d api.Design, proc int, find func(*finder, api.Proc)) []Piece {
	if Check(d) != api.OK || proc < 0 || proc >= len(d.Procs) {
		return nil
	}
	f := newFinder(d)
	find(f, d.Procs[proc])
	return f.pieces()
}

// element is an element of a signal.
type element struct {
	sig, elem int
}

// finder collects bits of the signals of a valid design.
type finder struct {
	signals []api.Signal
	found   map[element]uint64
}

// newFinder returns a finder that has no bits.
func newFinder(d api.Design) *finder {
	return &finder{d.Signals, map[element]uint64{}}
}

// pieces returns what was found, in order.
func (f *finder) pieces() []Piece {
	var list []Piece
	for _, at := range slices.SortedFunc(maps.Keys(f.found), func(a, b element) int {
		return cmp.Or(cmp.Compare(a.sig, b.sig), cmp.Compare(a.elem, b.elem))
	}) {
		list = append(list, Piece{at.sig, at.elem, f.found[at]})
	}
	return list
}

// edges adds all bits of the signals of edges.
func (f *finder) edges(list []api.Edge) {
	for _, g := range list {
		f.add(api.Expr{Op: api.Ref, W: f.signals[g.Sig].W, Sig: g.Sig})
	}
}

// add adds the bits that a place names.
func (f *finder) add(e api.Expr) {
	walk.Named(f.signals, e, func(sig, elem int, mask uint64) { f.found[element{sig, elem}] |= mask })
}
