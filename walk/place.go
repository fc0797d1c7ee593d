package walk

import (
	"maskwright/api"
	"maskwright/bits"
)

// Whole returns the Ref or the Elem of which an expression is a Slice or a Part, or which it is itself; only then it is a place.
func Whole(e api.Expr) (api.Expr, bool) {
	if e.Op == api.Slice || e.Op == api.Part {
		e = e.Kids[0]
	}
	return e, e.Op == api.Ref || e.Op == api.Elem
}

// Indices returns the expressions in a place that say which element and which bits it names.
func Indices(e api.Expr) []api.Expr {
	var list []api.Expr
	if whole, _ := Whole(e); whole.Op == api.Elem {
		list = append(list, whole.Kids[0])
	}
	if e.Op == api.Part {
		list = append(list, e.Kids[1])
	}
	return list
}

// Named visits the elements of which a place names bits, with these bits as a mask.
func Named(signals []api.Signal, e api.Expr, visit func(sig, elem int, mask uint64)) {
	whole, _ := Whole(e)
	mask := maskOf(e, whole.W)
	if mask == 0 {
		return
	}
	first, last := 0, signals[whole.Sig].Elems-1
	if whole.Op == api.Elem {
		if n, ok := number(whole.Kids[0]); ok {
			first, last = max(n, first), min(n, last)
		}
	}
	for i := first; i <= last; i++ {
		visit(whole.Sig, i, mask)
	}
}

// maskOf returns the bits that a place names of a vector of width bits.
func maskOf(e api.Expr, width int) uint64 {
	from, to := 0, width
	switch e.Op {
	case api.Slice:
		from, to = e.At, e.At+e.W
	case api.Part:
		if n, ok := number(e.Kids[1]); ok {
			from, to = max(n, 0), min(n+e.W, width)
		}
	}
	// If from is not less than to, the first shift leaves nothing.
	return ^uint64(0) >> (api.MaxWidth - to + from) << from
}

// number returns the number of a constant that is known. Numbers for which there are no bits and elements are all the same.
func number(e api.Expr) (int, bool) {
	if e.Op != api.Const || !bits.Known(e.N) {
		return 0, false
	}
	if e.Signed {
		n, _ := bits.Int(e.N)
		return int(min(max(n, -api.MaxWidth), api.MaxWidth)), true
	}
	n, _ := bits.Uint(e.N)
	return int(min(n, api.MaxWidth)), true
}
