package design

import (
	"slices"
	"strings"
	"testing"

	"maskwright/api"
)

// full returns the pieces of all bits of signals of the base design.
func full(sigs ...int) []Piece {
	var list []Piece
	for _, i := range sigs {
		s := base().Signals[i]
		for k := range s.Elems {
			list = append(list, Piece{i, k, ^uint64(0) >> (64 - s.W)})
		}
	}
	return list
}

// minus returns a signed constant of 4 bits with a negative number.
func minus(n uint64) api.Expr { return signed(num(4, 16-n)) }

// P8.11: the bits that a place names, as a value in a process and as a target of one.
func TestPlaces(t *testing.T) {
	v, q, t64 := ref(sigV, 4), ref(sigQ, 8), ref(sigT, 64)
	unknown := api.Expr{W: 2, N: api.Bits{W: 2, V: 1, X: 2}}
	part := func(w int, e, at api.Expr) api.Expr { return op(api.Part, w, e, at) }
	m := func(k api.Expr) api.Expr { return elem(sigM, 4, k) }
	for _, x := range []struct {
		what string
		e    api.Expr
		want []Piece
	}{
		{"signal", v, full(sigV)},
		{"signal of 64 bits", t64, []Piece{{sigT, 0, ^uint64(0)}}},
		{"slice", at(api.Slice, 3, 2, q), []Piece{{sigQ, 0, 0b11100}}},
		{"slice of all", at(api.Slice, 8, 0, q), full(sigQ)},
		{"highest bit", at(api.Slice, 1, 63, t64), []Piece{{sigT, 0, 1 << 63}}},
		{"slice of 64 bits", at(api.Slice, 64, 0, t64), full(sigT)},
		{"part", part(3, q, num(4, 4)), []Piece{{sigQ, 0, 0b1110000}}},
		{"part at the end", part(3, q, num(4, 6)), []Piece{{sigQ, 0, 0b11000000}}},
		{"part behind the end", part(3, q, num(4, 8)), nil},
		{"part far behind the end", part(3, q, num(64, ^uint64(0))), nil},
		{"part far behind the end, signed", part(3, q, signed(num(64, ^uint64(0)>>1))), nil},
		{"part from 64 on", part(3, t64, num(7, 64)), nil},
		{"part from 63 on", part(3, t64, num(7, 63)), []Piece{{sigT, 0, 1 << 63}}},
		{"part from 15 on", part(3, q, num(4, 15)), nil},
		{"part from -1 on", part(3, q, minus(1)), []Piece{{sigQ, 0, 0b11}}},
		{"part from -2 on", part(3, q, minus(2)), []Piece{{sigQ, 0, 0b1}}},
		{"part from -3 on", part(3, q, minus(3)), nil},
		{"part from far below on", part(3, q, signed(num(64, 1<<63))), nil},
		{"part from -64 on", part(64, t64, signed(num(7, 64))), nil},
		{"part from -63 on", part(64, t64, signed(num(7, 65))), []Piece{{sigT, 0, 1}}},
		{"signed part from 3 on", part(2, q, signed(num(4, 3))), []Piece{{sigQ, 0, 0b11000}}},
		{"part that is wider than all", part(64, q, num(4, 7)), []Piece{{sigQ, 0, 1 << 7}}},
		{"part with 64 bits", part(64, t64, num(1, 0)), full(sigT)},
		{"part from an unknown number on", part(2, q, unknown), full(sigQ)},
		{"part from an operation on", part(2, q, op(api.Not, 1, num(1, 0))), full(sigQ)},
		{"element", m(num(2, 2)), []Piece{{sigM, 2, 15}}},
		{"element that there is not", m(num(2, 3)), nil},
		{"element far behind the end", m(num(64, ^uint64(0))), nil},
		{"element -1", m(signed(num(2, 3))), nil},
		{"element 1, signed", m(signed(num(2, 1))), []Piece{{sigM, 1, 15}}},
		{"element of an unknown number", m(unknown), full(sigM)},
		{"element of an operation", m(op(api.Not, 1, num(1, 0))), full(sigM)},
		{"element of a signal with one", elem(sigV, 4, num(2, 0)), full(sigV)},
		{"element 1 of a signal with one", elem(sigV, 4, num(2, 1)), nil},
		{"any element of a signal with one", elem(sigV, 4, unknown), full(sigV)},
		{"slice of an element", at(api.Slice, 2, 1, m(num(2, 1))), []Piece{{sigM, 1, 0b110}}},
		{"slice of any element", at(api.Slice, 2, 1, m(unknown)), []Piece{{sigM, 0, 6}, {sigM, 1, 6}, {sigM, 2, 6}}},
		{"part of an element", part(2, m(num(2, 1)), num(2, 3)), []Piece{{sigM, 1, 8}}},
		{"part of no element", part(2, m(num(2, 3)), unknown), nil},
		{"part of any element", part(2, m(unknown), num(2, 3)), []Piece{{sigM, 0, 8}, {sigM, 1, 8}, {sigM, 2, 8}}},
	} {
		read := body(api.Initial, with(api.Until, x.e))
		if got := Reads(read, api.Initial); !slices.Equal(got, x.want) {
			t.Errorf("%s is read: %v, not %v", x.what, got, x.want)
		}
		drive := body(api.Initial, set(x.e, num(x.e.W, 0)))
		if got := Drives(drive, api.Initial); !slices.Equal(got, x.want) {
			t.Errorf("%s is driven: %v, not %v", x.what, got, x.want)
		}
		if got := Drives(read, api.Initial); len(got) > 0 {
			t.Errorf("%s is driven by an Until", x.what)
		}
		if got := Reads(drive, api.Initial); len(got) > 0 {
			t.Errorf("%s is read by its Set: %v", x.what, got)
		}
		prop := base()
		prop.Props = []api.Prop{{Name: "s", Clock: sigC, From: holds(num(1, 1)), To: holds(x.e)}}
		if got := PropReads(prop); !slices.Equal(got, x.want) {
			t.Errorf("%s is read by a property: %v, not %v", x.what, got, x.want)
		}
	}
}

// P8.12: where bits are read.
func TestReads(t *testing.T) {
	a, c, w, v, k := ref(sigA, 4), ref(sigC, 1), ref(sigW, 4), ref(sigV, 4), num(1, 1)
	part := func(e, at api.Expr) api.Expr { return op(api.Part, 2, e, at) }
	slice := func(e api.Expr) api.Expr { return at(api.Slice, 1, 2, e) }
	args := func(op int, kids []api.Stmt, args ...api.Expr) api.Stmt {
		return api.Stmt{Op: op, Args: args, Kids: kids}
	}
	nop := []api.Stmt{{}}
	for _, x := range []struct {
		what string
		s    api.Stmt
		want []Piece
	}{
		{"nothing", api.Stmt{}, nil},
		{"in order", block(with(api.Until, v), with(api.Until, a), with(api.Until, w)), full(sigA, sigW, sigV)},
		{"the same bits again", block(with(api.Until, slice(a)), with(api.Until, at(api.Slice, 1, 0, a)), with(api.Until, slice(a))), []Piece{{sigA, 0, 5}}},
		{"operation", with(api.Until, op(api.Add, 4, a, op(api.Not, 4, w))), full(sigA, sigW)},
		{"slice of an operation", with(api.Until, slice(op(api.Not, 4, a))), full(sigA)},
		{"part of an operation", with(api.Until, part(op(api.Not, 4, a), c)), full(sigA, sigC)},
		{"slice of a slice", with(api.Until, slice(at(api.Slice, 4, 2, ref(sigQ, 8)))), []Piece{{sigQ, 0, 0b111100}}},
		{"slice of a part", with(api.Until, at(api.Slice, 1, 0, part(ref(sigQ, 8), num(1, 1)))), []Piece{{sigQ, 0, 0b110}}},
		{"part of a slice", with(api.Until, part(at(api.Slice, 2, 1, a), c)), []Piece{{sigA, 0, 0b110}, {sigC, 0, 1}}},
		{"index of an element", with(api.Until, elem(sigM, 4, slice(a))), append([]Piece{{sigA, 0, 4}}, full(sigM)...)},
		{"index of a slice of an element", with(api.Until, slice(elem(sigM, 4, a))), append(full(sigA), Piece{sigM, 0, 4}, Piece{sigM, 1, 4}, Piece{sigM, 2, 4})},
		{"indices of a part of an element", with(api.Until, part(elem(sigM, 4, a), c)), full(sigA, sigC, sigM)},
		{"index in an index", with(api.Until, elem(sigM, 4, elem(sigB, 4, part(a, c)))), full(sigA, sigC, sigM, sigB)},
		{"index of no element", with(api.Until, part(elem(sigM, 4, num(2, 3)), a)), full(sigA)},
		{"call", with(api.Until, at(api.Call, 8, 1, a, part(w, c))), full(sigA, sigC, sigW)},
		{"time", with(api.Until, op(api.Now, 64)), nil},
		{"set", set(v, a), full(sigA)},
		{"put with a delay", api.Stmt{Op: api.Put, To: v, Args: []api.Expr{a, w}}, full(sigA, sigW)},
		{"target with indices", put(part(elem(sigM, 4, w), a), num(2, 0)), full(sigA, sigW)},
		{"slice of a target with an index", set(slice(elem(sigM, 4, w)), k), full(sigW)},
		{"cat of targets", set(op(api.Cat, 6, v, op(api.Cat, 2, part(v, elem(sigB, 4, c)))), num(6, 0)), full(sigC, sigB)},
		{"target that is read", set(v, v), full(sigV)},
		{"if", args(api.If, []api.Stmt{set(v, w), with(api.Until, c)}, a), full(sigA, sigC, sigW)},
		{"while", args(api.While, []api.Stmt{set(v, w)}, a), full(sigA, sigW)},
		{"repeat", args(api.Repeat, nop, a), full(sigA)},
		{"delay", with(api.Delay, a), full(sigA)},
		{"show", with(api.Show, w, v), full(sigW, sigV)},
		{"check", with(api.Check, w), full(sigW)},
		{"on", api.Stmt{Op: api.On, Edges: []api.Edge{{Kind: api.Rise, Sig: sigQ}, {Sig: sigT}}}, full(sigQ, sigT)},
		{"on within others", args(api.While, []api.Stmt{block(api.Stmt{Op: api.On, Edges: []api.Edge{{Sig: sigA}}})}, k), full(sigA)},
		{"case", api.Stmt{Op: api.Case, Args: []api.Expr{a}, Items: []api.Item{
			{Match: []api.Expr{v, slice4(sigQ)}, Do: set(v, w)}, {Do: with(api.Until, c)},
		}}, append(full(sigA, sigC, sigW, sigV), Piece{sigQ, 0, 0b111100})},
	} {
		d := body(api.Initial, x.s)
		if e := Check(d); e != api.OK {
			t.Errorf("%s: %d", x.what, e)
		}
		if got := Reads(d, api.Initial); !slices.Equal(got, x.want) {
			t.Errorf("%s: %v, not %v", x.what, got, x.want)
		}
	}
}

// slice4 returns the four bits in the middle of a signal of 8 bits.
func slice4(sig int) api.Expr { return at(api.Slice, 4, 2, ref(sig, 8)) }

// P8.12: the edges of a process are read, and the signals of its body.
func TestReadsOfEdges(t *testing.T) {
	d := base()
	d.Procs[2].Edges = append(d.Procs[2].Edges, api.Edge{Sig: sigV})
	if got := Reads(d, 2); !slices.Equal(got, full(sigA, sigC, sigV)) {
		t.Errorf("%v", got)
	}
	for i, want := range [][]Piece{full(sigA), full(sigW), full(sigA, sigC), nil, nil} {
		if got := Reads(base(), i); !slices.Equal(got, want) {
			t.Errorf("process %d: %v, not %v", i, got, want)
		}
	}
}

// P8.12: what targets name.
func TestDrives(t *testing.T) {
	v, a, z := ref(sigV, 4), ref(sigA, 4), num(4, 0)
	bit := func(i int) api.Stmt { return set(at(api.Slice, 1, i, v), num(1, 0)) }
	branches := api.Stmt{Op: api.If, Args: []api.Expr{a}, Kids: []api.Stmt{bit(0), block(bit(2), put(elem(sigM, 4, num(2, 1)), z))}}
	items := api.Stmt{Op: api.Case, Args: []api.Expr{a}, Items: []api.Item{{Match: []api.Expr{z}, Do: bit(3)}, {Do: put(ref(sigQ, 8), num(8, 1))}}}
	cat := op(api.Cat, 13, ref(sigQ, 8), op(api.Cat, 5, at(api.Slice, 1, 1, v), elem(sigM, 4, a)))
	for _, x := range []struct {
		what string
		s    api.Stmt
		want []Piece
	}{
		{"nothing", with(api.Show, v), nil},
		{"set", set(v, a), full(sigV)},
		{"put", put(v, a), full(sigV)},
		{"branches", branches, []Piece{{sigV, 0, 0b101}, {sigM, 1, 15}}},
		{"items", items, append([]Piece{{sigV, 0, 8}}, full(sigQ)...)},
		{"cat", set(cat, num(13, 0)), append(append([]Piece{{sigV, 0, 2}}, full(sigM)...), full(sigQ)...)},
		{"index", put(elem(sigM, 4, v), a), full(sigM)},
	} {
		if got := Drives(body(api.Always, x.s), api.Always); !slices.Equal(got, x.want) {
			t.Errorf("%s: %v, not %v", x.what, got, x.want)
		}
	}
	for i, want := range [][]Piece{full(sigW), full(sigV), full(sigQ), nil, nil} {
		if got := Drives(base(), i); !slices.Equal(got, want) {
			t.Errorf("process %d: %v, not %v", i, got, want)
		}
	}
}

// P8.12: the example of the chapter.
func TestPiecesOfTheExample(t *testing.T) {
	bit := func(i int) api.Expr { return at(api.Slice, 1, i, ref(sigW, 4)) }
	d := body(api.Cont, set(bit(1), bit(0)))
	if got := Reads(d, 0); !slices.Equal(got, []Piece{{sigW, 0, 1}}) {
		t.Error(got)
	}
	if got := Drives(d, 0); !slices.Equal(got, []Piece{{sigW, 0, 2}}) {
		t.Error(got)
	}
}

// P8.12: what properties read; their clocks are not read.
func TestPropReads(t *testing.T) {
	if got := PropReads(base()); !slices.Equal(got, full(sigA, sigC, sigW)) {
		t.Error(got)
	}
	d := base()
	d.Props[0].Clock, d.Props[1].Clock = sigT, sigQ
	d.Props[0].From.E = num(1, 1)
	d.Props[1].To = api.Temporal{Op: api.Times, Kids: []api.Temporal{{Op: api.Either, Kids: []api.Temporal{holds(ref(sigO, 1)), holds(elem(sigB, 4, ref(sigV, 4)))}}}}
	if got := PropReads(d); !slices.Equal(got, full(sigA, sigW, sigV, sigO, sigB)) {
		t.Error(got)
	}
	d.Props = nil
	if got := PropReads(d); len(got) > 0 {
		t.Error(got)
	}
}

// P8.12: nothing of designs that are not valid, and of processes that there are not.
func TestPiecesOfNothing(t *testing.T) {
	for _, i := range []int{-1, 5, 1 << 62, -1 << 63} {
		if len(Reads(base(), i)) > 0 || len(Drives(base(), i)) > 0 {
			t.Errorf("process %d", i)
		}
	}
	d := base()
	d.Name = strings.Repeat("x", api.MaxName+1)
	for i := range d.Procs {
		if len(Reads(d, i)) > 0 || len(Drives(d, i)) > 0 {
			t.Errorf("process %d of a design that is not valid", i)
		}
	}
	if len(PropReads(d)) > 0 {
		t.Error("properties of a design that is not valid")
	}
}
