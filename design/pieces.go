package design

import (
	"cmp"
	"maps"
	"slices"

	"maskwright/api"
	"maskwright/bits"
)

// Piece has some bits of an element of a signal.
type Piece struct {
	Sig, Elem int
	Bits      uint64
}

// Reads returns the bits that a process reads, in order of signals and elements.
func Reads(d api.Design, proc int) []Piece {
	return piecesOf(d, proc, func(f *finder, p api.Proc) {
		f.edges(p.Edges)
		eachStmt(p.Body, f.reads)
	})
}

// Drives returns the bits that a process can set.
func Drives(d api.Design, proc int) []Piece {
	return piecesOf(d, proc, func(f *finder, p api.Proc) {
		eachStmt(p.Body, func(s api.Stmt) {
			if isSet(s) {
				eachTarget(s.To, f.add)
			}
		})
	})
}

// PropReads returns the bits that the properties of a valid design read.
func PropReads(d api.Design) []Piece {
	if Check(d) != api.OK {
		return nil
	}
	f := newFinder(d)
	for _, p := range d.Props {
		f.sequence(p.From)
		f.sequence(p.To)
	}
	return f.pieces()
}

// piecesOf returns the bits that find adds for a process of a valid design.
func piecesOf(d api.Design, proc int, find func(*finder, api.Proc)) []Piece {
	if Check(d) != api.OK || proc < 0 || proc >= len(d.Procs) {
		return nil
	}
	f := newFinder(d)
	find(f, d.Procs[proc])
	return f.pieces()
}

// element is an element of a signal.
type element struct {
	sig, elem int
}

// finder collects bits of the signals of a valid design.
type finder struct {
	signals []api.Signal
	found   map[element]uint64
}

// newFinder returns a finder that has no bits.
func newFinder(d api.Design) *finder {
	return &finder{d.Signals, map[element]uint64{}}
}

// pieces returns what was found, in order.
func (f *finder) pieces() []Piece {
	var list []Piece
	for _, at := range slices.SortedFunc(maps.Keys(f.found), func(a, b element) int {
		return cmp.Or(cmp.Compare(a.sig, b.sig), cmp.Compare(a.elem, b.elem))
	}) {
		list = append(list, Piece{at.sig, at.elem, f.found[at]})
	}
	return list
}

// edges adds all bits of the signals of edges.
func (f *finder) edges(list []api.Edge) {
	for _, g := range list {
		f.add(api.Expr{Op: api.Ref, W: f.signals[g.Sig].W, Sig: g.Sig})
	}
}

// reads adds the bits that a statement reads itself, without the statements in it.
func (f *finder) reads(s api.Stmt) {
	f.edges(s.Edges)
	f.exprs(s.Args)
	for _, item := range s.Items {
		f.exprs(item.Match)
	}
	if isSet(s) {
		eachTarget(s.To, func(e api.Expr) { f.exprs(indicesOf(e)) })
	}
}

// exprs adds the bits that expressions read.
func (f *finder) exprs(list []api.Expr) {
	for _, e := range list {
		if _, ok := wholeOf(e); ok {
			f.add(e)
			f.exprs(indicesOf(e))
		} else {
			f.exprs(e.Kids)
		}
	}
}

// sequence adds the bits that a sequence reads.
func (f *finder) sequence(t api.Temporal) {
	f.exprs([]api.Expr{t.E})
	for _, kid := range t.Kids {
		f.sequence(kid)
	}
}

// add adds the bits that a place names.
func (f *finder) add(e api.Expr) {
	whole, _ := wholeOf(e)
	mask := bitsOf(e, whole.W)
	if mask == 0 {
		return
	}
	first, last := 0, f.signals[whole.Sig].Elems-1
	if whole.Op == api.Elem {
		if n, ok := number(whole.Kids[0]); ok {
			first, last = max(n, first), min(n, last)
		}
	}
	for i := first; i <= last; i++ {
		f.found[element{whole.Sig, i}] |= mask
	}
}

// bitsOf returns the bits that a place names of a vector of width bits.
func bitsOf(e api.Expr, width int) uint64 {
	from, to := 0, width
	switch e.Op {
	case api.Slice:
		from, to = e.At, e.At+e.W
	case api.Part:
		if n, ok := number(e.Kids[1]); ok {
			from, to = max(n, 0), min(n+e.W, width)
		}
	}
	// If from is not less than to, the first shift leaves nothing.
	return ^uint64(0) >> (api.MaxWidth - to + from) << from
}

// number returns the number of a constant that is known. Numbers for which there are no bits and elements are all the same.
func number(e api.Expr) (int, bool) {
	if e.Op != api.Const || !bits.Known(e.N) {
		return 0, false
	}
	if e.Signed {
		n, _ := bits.Int(e.N)
		return int(min(max(n, -api.MaxWidth), api.MaxWidth)), true
	}
	n, _ := bits.Uint(e.N)
	return int(min(n, api.MaxWidth)), true
}

// eachStmt visits a statement and all statements in it.
func eachStmt(s api.Stmt, visit func(api.Stmt)) {
	visit(s)
	for _, kid := range s.Kids {
		eachStmt(kid, visit)
	}
	for _, item := range s.Items {
		eachStmt(item.Do, visit)
	}
}

// eachTarget visits the places of a target.
func eachTarget(e api.Expr, visit func(api.Expr)) {
	if e.Op != api.Cat {
		visit(e)
		return
	}
	for _, kid := range e.Kids {
		eachTarget(kid, visit)
	}
}
