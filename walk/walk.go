// Package walk visits the parts of valid statements and expressions of a design, and says which bits places name.
package walk

import "maskwright/api"

// Stmts visits a statement and all statements in it.
func Stmts(s api.Stmt, visit func(api.Stmt)) {
	visit(s)
	for _, kid := range s.Kids {
		Stmts(kid, visit)
	}
	for _, item := range s.Items {
		Stmts(item.Do, visit)
	}
}

// Exprs visits an expression and all expressions in it.
func Exprs(e api.Expr, visit func(api.Expr)) {
	visit(e)
	for _, kid := range e.Kids {
		Exprs(kid, visit)
	}
}

// Sequence visits the expressions of a sequence, without those in them.
func Sequence(t api.Temporal, visit func(api.Expr)) {
	if t.Op == api.Holds {
		visit(t.E)
	}
	for _, kid := range t.Kids {
		Sequence(kid, visit)
	}
}

// Assigns reports whether a statement has a target.
func Assigns(s api.Stmt) bool {
	return s.Op == api.Set || s.Op == api.Put
}

// Targets visits the places of the target of a statement; there are none if it has no target.
func Targets(s api.Stmt, visit func(api.Expr)) {
	if Assigns(s) {
		targets(s.To, visit)
	}
}

// targets visits the places of a target.
func targets(e api.Expr, visit func(api.Expr)) {
	if e.Op != api.Cat {
		visit(e)
		return
	}
	for _, kid := range e.Kids {
		targets(kid, visit)
	}
}

// Reads visits the places that a statement reads itself, without the statements in it.
func Reads(s api.Stmt, visit func(api.Expr)) {
	all := func(list []api.Expr) {
		for _, e := range list {
			Places(e, visit)
		}
	}
	all(s.Args)
	for _, item := range s.Items {
		all(item.Match)
	}
	Targets(s, func(e api.Expr) { all(Indices(e)) })
}

// Places visits the places that an expression reads: not those of which another one is a piece, but those in indices.
func Places(e api.Expr, visit func(api.Expr)) {
	kids := e.Kids
	if _, ok := Whole(e); ok {
		visit(e)
		kids = Indices(e)
	}
	for _, kid := range kids {
		Places(kid, visit)
	}
}
