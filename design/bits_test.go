package design

import (
	"math/big"
	"slices"
	"testing"

	"maskwright/api"
)

// bitSet is a set of bits, each one a signal, an element and a number: a model of pieces.
type bitSet struct {
	d   api.Design
	set map[[3]int]bool
}

// position returns the number of a constant, or nothing if it is no constant or not known.
func position(e api.Expr) *big.Int {
	if e.Op != api.Const || e.N.X != 0 {
		return nil
	}
	n := new(big.Int).SetUint64(e.N.V)
	if e.Signed && n.Bit(e.W-1) == 1 {
		n.Sub(n, new(big.Int).Lsh(big.NewInt(1), uint(e.W)))
	}
	return n
}

// isAt reports whether a position is a number, or any number.
func isAt(p *big.Int, n int) bool { return p == nil || p.Cmp(big.NewInt(int64(n))) == 0 }

// name adds the bits of a place, one by one.
func (b *bitSet) name(e api.Expr) {
	base := e
	if e.Op == api.Slice || e.Op == api.Part {
		base = e.Kids[0]
	}
	for k := range b.d.Signals[base.Sig].Elems {
		if base.Op == api.Elem && !isAt(position(base.Kids[0]), k) {
			continue
		}
		for i := range b.d.Signals[base.Sig].W {
			if b.has(e, i) {
				b.set[[3]int{base.Sig, k, i}] = true
			}
		}
	}
}

// has reports whether a place names a bit.
func (b *bitSet) has(e api.Expr, i int) bool {
	if e.Op == api.Slice {
		return slices.Contains(upFrom(e.At, e.W), i)
	}
	if e.Op != api.Part {
		return true
	}
	p := position(e.Kids[1])
	for k := range e.W {
		if isAt(p, i-k) {
			return true
		}
	}
	return false
}

// upFrom returns n numbers.
func upFrom(first, n int) []int {
	var list []int
	for i := range n {
		list = append(list, first+i)
	}
	return list
}

// read adds what an expression reads. In a place, only indices are looked at.
func (b *bitSet) read(e api.Expr, inPlace bool) {
	named := func(e api.Expr) bool { return e.Op == api.Ref || e.Op == api.Elem }
	piece := (e.Op == api.Slice || e.Op == api.Part) && named(e.Kids[0])
	if (named(e) || piece) && !inPlace {
		b.name(e)
	}
	for i, kid := range e.Kids {
		b.read(kid, i == 0 && (piece || inPlace && e.Op == api.Cat))
	}
}

// target adds what the indices of a target read, or what it names.
func (b *bitSet) target(e api.Expr, drives bool) {
	switch {
	case e.Op == api.Cat:
		for _, kid := range e.Kids {
			b.target(kid, drives)
		}
	case drives:
		b.name(e)
	default:
		b.read(e, true)
	}
}

// stmt adds what a statement reads, or what it drives.
func (b *bitSet) stmt(s api.Stmt, drives bool) {
	if s.Op == api.Set || s.Op == api.Put {
		b.target(s.To, drives)
	}
	for _, e := range s.Args {
		b.value(e, drives)
	}
	for _, g := range s.Edges {
		b.value(api.Expr{Op: api.Ref, Sig: g.Sig}, drives)
	}
	for _, item := range s.Items {
		for _, e := range item.Match {
			b.value(e, drives)
		}
		b.stmt(item.Do, drives)
	}
	for _, kid := range s.Kids {
		b.stmt(kid, drives)
	}
}

// value adds what an expression reads, but not to what is driven.
func (b *bitSet) value(e api.Expr, drives bool) {
	if !drives {
		b.read(e, false)
	}
}

// sequence adds what a sequence reads.
func (b *bitSet) sequence(t api.Temporal) {
	b.read(t.E, false)
	for _, kid := range t.Kids {
		b.sequence(kid)
	}
}

// list returns the bits as pieces.
func (b *bitSet) list() []Piece {
	var pieces []Piece
	for i, s := range b.d.Signals {
		for k := range s.Elems {
			p := Piece{Sig: i, Elem: k}
			for bit := range 64 {
				if b.set[[3]int{i, k, bit}] {
					p.Bits |= 1 << bit
				}
			}
			if p.Bits > 0 {
				pieces = append(pieces, p)
			}
		}
	}
	return pieces
}

// P8.11, P8.12: what processes and properties of random designs read and drive, against a model that looks at each bit.
func TestPiecesOfRandomDesigns(t *testing.T) {
	found := 0
	for seed := range int64(1500) {
		d := grown(seed)
		model := func(f func(b *bitSet)) []Piece {
			b := &bitSet{d, map[[3]int]bool{}}
			f(b)
			return b.list()
		}
		for i, p := range d.Procs {
			reads := model(func(b *bitSet) { b.stmt(api.Stmt{Edges: p.Edges, Kids: []api.Stmt{p.Body}}, false) })
			drives := model(func(b *bitSet) { b.stmt(p.Body, true) })
			if got := Reads(d, i); !slices.Equal(got, reads) {
				t.Fatalf("design %d, process %d reads %v, not %v", seed, i, got, reads)
			}
			if got := Drives(d, i); !slices.Equal(got, drives) {
				t.Fatalf("design %d, process %d drives %v, not %v", seed, i, got, drives)
			}
			found += len(reads) + len(drives)
		}
		props := model(func(b *bitSet) {
			for _, p := range d.Props {
				b.sequence(p.From)
				b.sequence(p.To)
			}
		})
		if got := PropReads(d); !slices.Equal(got, props) {
			t.Fatalf("design %d: properties read %v, not %v", seed, got, props)
		}
		found += len(props)
	}
	if found < 5000 {
		t.Errorf("only %d pieces", found)
	}
}
