package lint_test

import (
	"fmt"
	"slices"
	"strings"
	"testing"

	"maskwright/api"
	"maskwright/elab"
	"maskwright/lint"
)

// ruleNames are the names of the rules, in order.
var ruleNames = strings.Fields("kind clock reset none several assigned latch loop unknown index division size")

// reasonText writes a reason: the rule, the process or the function (or - for neither), and the name of the signal, or - for none.
func reasonText(d api.Design, r lint.Reason) string {
	at, list := "-", d.Signals
	if r.Proc >= 0 {
		at = fmt.Sprint("p", r.Proc)
	}
	if r.Func >= 0 {
		at = fmt.Sprint("f", r.Func)
		list = d.Funcs[r.Func].Vars
	}
	if r.Proc >= 0 && r.Func >= 0 {
		at = "both"
	}
	name := "-"
	if r.Sig >= 0 {
		name = list[r.Sig].Name
	}
	return fmt.Sprint(ruleNames[r.Rule], " ", at, " ", name)
}

// says returns what Accept says of a design: its reasons, or the clock, the reset and the order.
func says(t *testing.T, d api.Design) string {
	t.Helper()
	r, e := lint.Accept(d)
	if e != api.OK {
		t.Fatalf("error %d: %v", e, d)
	}
	if !r.OK {
		if r.Clock != -1 || r.Reset != -1 || len(r.Order) > 0 || len(r.Reasons) == 0 {
			t.Errorf("%v is not accepted", r)
		}
		var all []string
		for _, x := range r.Reasons {
			all = append(all, reasonText(d, x))
		}
		return strings.Join(all, ", ")
	}
	if len(r.Reasons) > 0 {
		t.Errorf("%v is accepted", r)
	}
	name := func(i int) string {
		if i == -1 {
			return "-"
		}
		return d.Signals[i].Name
	}
	return strings.TrimSpace(fmt.Sprint(name(r.Clock), " ", name(r.Reset), ": ", strings.Trim(fmt.Sprint(r.Order), "[]")))
}

// built returns the design of the module top of a text.
func built(t *testing.T, s string) api.Design {
	t.Helper()
	d, l, e := elab.Text(map[string]string{"a.mw": s}, "a.mw", "top", nil)
	if e != api.OK || len(l) > 0 {
		t.Fatalf("%s\n%v, error %d", s, l, e)
	}
	return d
}

// head is the beginning of a module; its only process is p0.
const head = "module top (in clk, in rst, in set, in [3:0] x, in [1:0] y, out [3:0] q) { assign q = x;\n"

// row has members of a module that begins with the head, a change of the design if it has one, and what Accept says of it.
type row struct {
	members string
	want    string
	change  func(d *api.Design)
}

// check checks rows.
func check(t *testing.T, rows []row) {
	t.Helper()
	for _, r := range rows {
		d := built(t, head+r.members+" }")
		if r.change != nil {
			r.change(&d)
		}
		if got := says(t, d); got != r.want {
			t.Errorf("%s\n%s\nnot\n%s", r.members, got, r.want)
		}
	}
}

func ref(sig, w int) api.Expr { return api.Expr{Op: api.Ref, W: w, Sig: sig} }

func elem(sig, w int, k api.Expr) api.Expr {
	return api.Expr{Op: api.Elem, W: w, Sig: sig, Kids: []api.Expr{k}}
}

func op(op, w int, kids ...api.Expr) api.Expr { return api.Expr{Op: op, W: w, Kids: kids} }

func slice(w, at int, e api.Expr) api.Expr {
	return api.Expr{Op: api.Slice, W: w, At: at, Kids: []api.Expr{e}}
}

func local(e api.Expr) api.Expr {
	e.Local = true
	return e
}

func signed(e api.Expr) api.Expr {
	e.Signed = true
	return e
}

func num(w int, v uint64) api.Expr {
	return api.Expr{Op: api.Const, W: w, N: api.Bits{W: w, V: v}}
}

// some returns a constant that is not known.
func some(w int) api.Expr {
	return api.Expr{Op: api.Const, W: w, N: api.Bits{W: w, V: 1, X: 1}}
}

func set(to, e api.Expr) api.Stmt { return api.Stmt{Op: api.Set, To: to, Args: []api.Expr{e}} }

func put(to, e api.Expr) api.Stmt { return api.Stmt{Op: api.Put, To: to, Args: []api.Expr{e}} }

func block(kids ...api.Stmt) api.Stmt { return api.Stmt{Op: api.Block, Kids: kids} }

func branch(e api.Expr, kids ...api.Stmt) api.Stmt {
	return api.Stmt{Op: api.If, Args: []api.Expr{e}, Kids: kids}
}

// index returns the number of a signal.
func index(d api.Design, name string) int {
	return slices.IndexFunc(d.Signals, func(s api.Signal) bool { return s.Name == name })
}
