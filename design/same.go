package design

import (
	"slices"

	"maskwright/api"
)

// Ports returns the numbers of the input ports and of the output ports of a design, in order.
func Ports(d api.Design) (in, out []int) {
	for i, s := range d.Signals {
		switch s.Port {
		case api.In:
			in = append(in, i)
		case api.Out:
			out = append(out, i)
		}
	}
	return in, out
}

// Same reports whether two designs are equal, except for lines.
func Same(a, b api.Design) bool {
	return a.Name == b.Name &&
		slices.EqualFunc(a.Signals, b.Signals, sameSignal) &&
		slices.EqualFunc(a.Funcs, b.Funcs, sameFunc) &&
		slices.EqualFunc(a.Procs, b.Procs, sameProc) &&
		slices.EqualFunc(a.Props, b.Props, sameProp)
}

// SameExpr reports whether two expressions are equal.
func SameExpr(a, b api.Expr) bool {
	return a.Op == b.Op && a.W == b.W && a.Signed == b.Signed && a.N == b.N &&
		a.Sig == b.Sig && a.Local == b.Local && a.At == b.At &&
		slices.EqualFunc(a.Kids, b.Kids, SameExpr)
}

// SameStmt reports whether two statements are equal, except for lines.
func SameStmt(a, b api.Stmt) bool {
	return a.Op == b.Op && a.Kind == b.Kind && a.Text == b.Text &&
		SameExpr(a.To, b.To) && slices.Equal(a.Edges, b.Edges) &&
		slices.EqualFunc(a.Args, b.Args, SameExpr) &&
		slices.EqualFunc(a.Kids, b.Kids, SameStmt) &&
		slices.EqualFunc(a.Items, b.Items, sameItem)
}

// sameItem reports whether two items are equal, except for lines.
func sameItem(a, b api.Item) bool {
	return slices.EqualFunc(a.Match, b.Match, SameExpr) && SameStmt(a.Do, b.Do)
}

// sameSignal reports whether two signals are equal.
func sameSignal(a, b api.Signal) bool {
	return a.Name == b.Name && a.Port == b.Port && a.Kind == b.Kind && a.W == b.W &&
		a.Signed == b.Signed && a.Elems == b.Elems && slices.Equal(a.Init, b.Init)
}

// sameFunc reports whether two functions are equal, except for lines.
func sameFunc(a, b api.Func) bool {
	return a.Name == b.Name && a.Args == b.Args &&
		slices.EqualFunc(a.Vars, b.Vars, sameSignal) && SameStmt(a.Body, b.Body)
}

// sameProc reports whether two processes are equal, except for lines.
func sameProc(a, b api.Proc) bool {
	return a.Name == b.Name && a.Kind == b.Kind &&
		slices.Equal(a.Edges, b.Edges) && SameStmt(a.Body, b.Body)
}

// sameProp reports whether two properties are equal, except for lines.
func sameProp(a, b api.Prop) bool {
	return a.Name == b.Name && a.Clock == b.Clock && a.Later == b.Later &&
		sameSequence(a.From, b.From) && sameSequence(a.To, b.To)
}

// sameSequence reports whether two sequences are equal.
func sameSequence(a, b api.Temporal) bool {
	return a.Op == b.Op && a.Lo == b.Lo && a.Hi == b.Hi && SameExpr(a.E, b.E) &&
		slices.EqualFunc(a.Kids, b.Kids, sameSequence)
}
