package elab_test

import (
	"testing"

	"maskwright/api"
)

// P12.12: a Link makes the signals of an interface, in a scope of their own within that of the file.
func TestLink(t *testing.T) {
	makes(t, `const n = 9;
		interface i #(n = 2, m = n + 1) { view v (in a); wire [n-1:0] a, b; wire signed [m:1] c; wire e d; wire [width(a):0] f; }
		enum [5:4] e { x }
		module top () { const n = 7; link l: i; for (k = 1 to 1) : g { link l: i #(m = k, n = n); wire w = l.b[6]; } wire w = l.d[5]; }`, `
		wire l.a:2
		wire l.b:2
		wire l.c:3s
		wire l.d:2
		wire l.f:3
		wire g.1.l.a:7
		wire g.1.l.b:7
		wire g.1.l.c:1s
		wire g.1.l.d:2
		wire g.1.l.f:8
		wire g.1.w:1
		wire w:1
		cont g.1.p0: set g.1.w:1 = slice1@6(g.1.l.b:7)
		cont p1: set w:1 = slice1@1(l.d:2)`)
	// Views are not looked at, and an interface can be empty.
	built(t, "interface i { view v (in no, out no); view v (in a); } module top () { link l: i; }")
	faults(t, within([]fault{
		{"link c: @no #(n = nobody);", api.ErrNone, "no"}, {"link c: @M;", api.ErrNone, "M"}, {"link c: @l;", api.ErrNone, "l"}, {"@link c: I;", api.ErrTwice, "c"}, {"link c: I #(n = @nobody);", api.ErrNone, "nobody"},
		{"assign @l = 1;", api.ErrType, "l"}, {"assign w = @l;", api.ErrType, "l"}, {"assign w = @l[1];", api.ErrType, "l"}, {"assign @l.no = 1;", api.ErrNone, "l.no"}, {"assign w = @l.n;", api.ErrNone, "l.n"}, {"assign w = @l.d.k;", api.ErrNone, "k"}, {"assign w = @l.src;", api.ErrNone, "l.src"},
	}))
	faults(t, []fault{
		{"interface i { wire @t a; } module top () { link l: i; wire l; }", api.ErrNone, "t"},
		{"interface i { wire @a [0:1]; } module top () { link l: i; }", api.ErrType, "a"},
		{"interface i { wire a, @b = nobody; } module top () { link l: i; }", api.ErrType, "b"},
		{"interface i { wire a, @a [1:0] = nobody; } module top () { link l: i; }", api.ErrType, "a"},
		{"interface i { wire a; wire @t b; } module top () { link l: i; }", api.ErrNone, "t"},
		{"interface i { wire a; wire @a; } module top () { wire l; link l: i; }", api.ErrTwice, "a"},
		{"interface i { wire a; } module top () { wire l; @link l: i; }", api.ErrTwice, "l"},
		{"interface i { wire [@c:0] a; } module top () { const c = 1; link l: i; }", api.ErrNone, "c"},
		{"interface i #(c = @d) { wire a; } module top () { const d = 1; link l: i; }", api.ErrNone, "d"},
	})
}

// buses is the beginning of sources with interfaces.
const buses = `interface i #(n = 2) { wire [n-1:0] a; wire b; wire c; view in3 (in a, in b, in c); view out3 (out c, out b, out a); view mix (out b, in a); view one (in c); view two (out c); }
	interface j { wire a; wire b; view one (in b); view v (in a); } `

// P12.11: a PortView has the signals of the group that it is connected to, in the directions of the view.
func TestPortView(t *testing.T) {
	makes(t, buses+`
		module a (i.mix p) { assign p.b = p.a[0]; inst u: b (q = p); }
		module b (i.mix q) { const n = width(q.a) - 1; assign q.b = q.a[n]; inst u: c (r = q); }
		module c (i.mix r) { wire w = r.b; }
		module top () { link l: i #(n = 4); inst u: a (p = l); if (1) : g { link l2: i; inst v: c (r = l2); inst w: c (r = l); } }`, `
		wire l.a:4
		wire l.b:1
		wire l.c:1
		wire u.u.u.w:1
		wire g.l2.a:2
		wire g.l2.b:1
		wire g.l2.c:1
		wire g.v.w:1
		wire g.w.w:1
		cont u.p0: set l.b:1 = slice1@0(l.a:4)
		cont u.u.p1: set l.b:1 = slice1@3(l.a:4)
		cont u.u.u.p2: set u.u.u.w:1 = l.b:1
		cont g.v.p3: set g.v.w:1 = g.l2.b:1
		cont g.w.p4: set g.w.w:1 = l.b:1`)
}

// P12.11: what a PortView of an instance can be connected to.
func TestPortViewFaults(t *testing.T) {
	for s, f := range map[string]fault{
		"module m (@no.v p) { } module top () { inst u: m (p = 1); }":                                            {code: api.ErrNone, name: "no"},
		"module m (@top.v p) { } module top () { inst u: m (p = 1); }":                                           {code: api.ErrNone, name: "top"},
		"module m (i.@no p) { } module top () { inst u: m (p = 1); }":                                            {code: api.ErrNone, name: "no"},
		"module m (i.@v p) { } module top () { inst u: m (p = 1); }":                                             {code: api.ErrNone, name: "v"},
		"module m (i.@a p) { } module top () { inst u: m (p = 1); }":                                             {code: api.ErrNone, name: "a"},
		"module m (i.@no p) { } module top () { inst u: m (); }":                                                 {code: api.ErrNone, name: "no"},
		"module m (i.one p) { } module top () { @inst u: m (); }":                                                {code: api.ErrNone, name: "p"},
		"module m (i.one p) { } module top () { inst u: m (p = @1); }":                                           {code: api.ErrType, name: "p"},
		"module m (i.one p) { } module top () { inst u: m (p = @l); }":                                           {code: api.ErrType, name: "p"},
		"module m (i.one p) { } module top (in l) { inst u: m (p = @l); }":                                       {code: api.ErrType, name: "p"},
		"module m (i.one p) { } module top () { if (1) : l { } inst u: m (p = @l); }":                            {code: api.ErrType, name: "p"},
		"module m (i.one p) { } module top () { link l: j; inst u: m (p = @l); }":                                {code: api.ErrType, name: "p"},
		"module m (i.one p) { } module top () { link l: i; inst u: m (p = @l.c); }":                              {code: api.ErrType, name: "p"},
		"module m (i.one p) { } module top () { link l: i; inst u: m (p = @+l); }":                               {code: api.ErrType, name: "p"},
		"module m (i.one p) { } module top () { link l: i; inst u: m (p = @cat(l)); }":                           {code: api.ErrType, name: "p"},
		"module m (i.one p) { } module top () { link l: i; wire k; if (1) : g { wire l; inst u: m (p = @l); } }": {code: api.ErrType, name: "p"},
		"module m (i.one p) { } module top () { inst u: m (p = @l); link l: i; }":                                {code: api.ErrType, name: "p"},
		"module m (j.v p) { } module top () { link l: i; inst u: m (p = @l); }":                                  {code: api.ErrType, name: "p"},
		// The signals of the view, in the order of the view.
		"module m (i.mix p) { inst v: n (q = @p); } module n (i.out3 q) { } module top () { link l: i; inst u: m (p = l); }":                {code: api.ErrType, name: "c"},
		"module m (i.mix p) { inst v: n (q = @p); } module n (i.in3 q) { } module top () { link l: i; inst u: m (p = l); }":                 {code: api.ErrType, name: "c"},
		"module m (i.in3 p) { inst v: n (q = @p); } module n (i.mix q) { } module top () { link l: i; inst u: m (p = l); }":                 {code: api.ErrType, name: "b"},
		"module m (i.in3 p) { inst v: n (q = @p); } module n (i.out3 q) { } module top () { link l: i; inst u: m (p = l); }":                {code: api.ErrType, name: "c"},
		"module m (i.mix p) { inst v: n (q = @p); } module n (i.one q) { } module top () { link l: i; inst u: m (p = l); }":                 {code: api.ErrType, name: "c"},
		"module n (i.mix q) { } module top (i.in3 p) { inst u: n (q = @p); }":                                                               {code: api.ErrType, name: "b"},
		"interface k { wire a; view v (in a, in b); } module n (k.v q) { } module top () { link l: k; inst u: n (q = @l); }":                {code: api.ErrType, name: "b"},
		"interface k { wire a; view v (out a, @in a); } module n (k.v q) { } module top () { link l: k; inst u: n (q = l); }":               {code: api.ErrTwice, name: "a"},
		"interface k { wire a, b; view v (in a, in b, @in b, in a); } module n (k.v q) { } module top () { link l: k; inst u: n (q = l); }": {code: api.ErrTwice, name: "b"},
		"interface k { wire a; view v (in a, in a, in no); } module n (k.v q) { } module top () { link l: k; inst u: n (q = @l); }":         {code: api.ErrType, name: "no"},
		"module n #(q = 1) (@i.one q) { } module top () { link l: i; inst u: n (q = l); }":                                                  {code: api.ErrTwice, name: "q"},
		// A view that is not there is looked for before the connection, and this before the other ports.
		"module n (i.one q, in t a) { } module top () { inst u: n (q = @l, a = nobody); }": {code: api.ErrType, name: "q"},
		"module n (in @t a, i.no q) { } module top () { inst u: n (q = l, a = nobody); }":  {code: api.ErrNone, name: "t"},
	} {
		f.text = buses + s
		f.check(t)
	}
	// What is in a view as out can be in within, and what is not in a view is not there.
	makes(t, buses+`module m (i.out3 p) { inst u: n (q = p); assign p.a = 1; } module n (i.in3 q) { inst u: o (r = q); } module o (i.one r) { wire w = r.c; } module top () { link l: i; inst u: m (p = l); }`, `
		wire l.a:2
		wire l.b:1
		wire l.c:1
		wire u.u.u.w:1
		cont u.u.u.p0: set u.u.u.w:1 = l.c:1
		cont u.p1: set l.a:2 = 2s'1`)
	faults(t, []fault{
		{buses + "module m (i.one p) { wire w = @p.a; } module top () { link l: i; inst u: m (p = l); }", api.ErrNone, "p.a"},
		{buses + "module m (i.one p) { assign @p.c = 1; } module top () { link l: i; inst u: m (p = l); }", api.ErrType, "p"},
		{buses + "module m (i.two p) { assign p.c = 1; inst u: n (q = p); } module n (i.one q) { assign @q.c = 1; } module top () { link l: i; inst u: m (p = l); }", api.ErrType, "q"},
	})
}

// P12.14: a PortView of the top has a port for each wire of the interface that the view names.
func TestOuterView(t *testing.T) {
	makes(t, buses+`module m (i.one p) { wire w = p.c; } module top (in x, i.mix p, out y, i.two q) { inst u: m (p = q); assign p.b = p.a[1]; assign q.c = x; assign y = q.c; }`, `
		in wire x:1
		in wire p.a:2
		out wire p.b:1
		out wire y:1
		out wire q.c:1
		wire u.w:1
		cont u.p0: set u.w:1 = q.c:1
		cont p1: set p.b:1 = slice1@1(p.a:2)
		cont p2: set q.c:1 = x:1
		cont p3: set y:1 = q.c:1`)
	// In the order of the wires, each with its type, in a scope within that of the file.
	makes(t, `const k = 3; interface i #(n = k) { wire [n:0] a, b; wire signed [width(b)-1:0] c; wire s d; view v (in d, out c, in a); } struct s { [1:0] f; }
		module top #(k = 8, n = 9) (i.v p) { wire w = p.a[3]; wire v = p.d.f[1]; wire signed [7:0] u = p.c; }`, `
		in wire p.a:4
		out wire p.c:4s
		in wire p.d:2
		wire w:1
		wire v:1
		wire u:8s
		cont p0: set w:1 = slice1@3(p.a:4)
		cont p1: set v:1 = slice1@1(p.d:2)
		cont p2: set u:8s = resize8s(p.c:4s)`)
	faults(t, []fault{
		{"module top (@no.v p) { }", api.ErrNone, "no"},
		{"interface i { view v (in a); } module top (i.@w p) { }", api.ErrNone, "w"},
		{"interface i { wire b; view v (in b, @in a, in c); } module top (i.v p) { }", api.ErrNone, "a"},
		{"interface i { wire b; view v (in b, in b, @in a); } module top (i.v p) { }", api.ErrNone, "a"},
		{"interface i { wire b; view v (in b, @out b); } module top (i.v p) { }", api.ErrTwice, "b"},
		{"interface i { wire b; view v (in b, @out b); } module top (in p, i.v p) { }", api.ErrTwice, "b"},
		{"interface i { wire b; view v (in b); } module top (in p, @i.v p) { }", api.ErrTwice, "p"},
		{"interface i #(n = @nobody) { wire b; view v (in b, in a); } module top (i.v p) { }", api.ErrNone, "nobody"},
		{"interface i { wire @t b; view v (in b, in a); } module top (i.v p) { }", api.ErrNone, "t"},
		{"interface i { wire @b = 1; view v (in b, in a); } module top (i.v p) { }", api.ErrType, "b"},
		{"interface i { wire @b [0:1]; view v (in b, in a); } module top (i.v p) { }", api.ErrType, "b"},
		{"interface i { wire b, @b; view v (in b, in a); } module top (i.v p) { }", api.ErrTwice, "b"},
		{"interface i { wire b; view v (in b); } module top (i.v p) { assign @p.b = 1; }", api.ErrType, "p"},
		{"interface i { wire b, c; view v (in b); } module top (i.v p) { wire w = @p.c; }", api.ErrNone, "p.c"},
		{"interface i { wire b; wire c = 1; view v (in b); } module top (in @t x, i.v p) { }", api.ErrNone, "t"},
	})
}
