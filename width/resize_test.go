package width_test

import (
	"reflect"
	"testing"

	"maskwright/api"
	"maskwright/bits"
	"maskwright/width"
)

// copyOf returns a copy of an expression that shares no memory with it; it uses nothing of the package under test.
func copyOf(e api.Expr) api.Expr {
	if e.Kids == nil {
		return e
	}
	e.Kids = append([]api.Expr{}, e.Kids...)
	for i := range e.Kids {
		e.Kids[i] = copyOf(e.Kids[i])
	}
	return e
}

// spoil changes all nodes of an expression.
func spoil(e *api.Expr) {
	*e = api.Expr{Op: -1, W: -7, Kids: e.Kids}
	kids := e.Kids[:cap(e.Kids)]
	for i := range kids {
		spoil(&kids[i])
	}
}

// P10.2: Resized, for each operation, with the signs of the operation and of the context.
func TestResized(t *testing.T) {
	a, b, c := ref(0, 8), signed(ref(1, 8)), ref(4, 1)
	at := func(e api.Expr, at int) api.Expr { e.At = at; return e }
	for _, x := range []struct {
		e            api.Expr
		w            int
		plain, signs string
	}{
		{a, 8, "a8", "a8"}, {b, 8, "b8s", "b8s"}, {a, 9, "resize9(a8)", "resize9s(a8)"}, {b, 3, "resize3(b8s)", "resize3s(b8s)"}, {a, 64, "resize64(a8)", "resize64s(a8)"}, {a, 1, "resize1(a8)", "resize1s(a8)"},
		{num(4, 9), 4, "4'9", "4'9"}, {signed(num(4, 9)), 4, "4'9s", "4'9s"}, {num(4, 9), 6, "6'9", "6'57s"}, {signed(num(4, 9)), 6, "6'9", "6'57s"}, {num(4, 9), 2, "2'1", "2'1s"}, {width.Constant(vec("x01z"), false), 6, "6'b00x01z", "6'bxxx01zs"}, {width.Constant(vec("x01z"), true), 2, "2'b1z", "2'b1zs"},
		{op(api.Add, 8, a, b), 3, "add3(resize3(a8), resize3(b8s))", "add3(resize3s(a8), resize3s(b8s))"}, {signed(op(api.Sub, 8, a, num(8, 255))), 3, "sub3s(resize3(a8), 3'7)", "sub3s(resize3s(a8), 3'7s)"},
		{op(api.Mul, 8, a, b), 4, "mul4(resize4(a8), resize4(b8s))", "mul4(resize4s(a8), resize4s(b8s))"}, {op(api.And, 8, a, b), 4, "and4(resize4(a8), resize4(b8s))", "and4(resize4s(a8), resize4s(b8s))"},
		{op(api.Or, 8, a, b), 4, "or4(resize4(a8), resize4(b8s))", "or4(resize4s(a8), resize4s(b8s))"}, {op(api.Xor, 8, a, b), 4, "xor4(resize4(a8), resize4(b8s))", "xor4(resize4s(a8), resize4s(b8s))"},
		{signed(op(api.Not, 8, a)), 4, "not4s(resize4(a8))", "not4s(resize4s(a8))"}, {op(api.Neg, 8, a), 4, "neg4(resize4(a8))", "neg4(resize4s(a8))"},
		{op(api.Add, 8, a, b), 9, "resize9(add8(a8, b8s))", "resize9s(add8(a8, b8s))"}, {op(api.Neg, 8, a), 9, "resize9(neg8(a8))", "resize9s(neg8(a8))"}, {op(api.Add, 8, a, b), 8, "add8(a8, b8s)", "add8(a8, b8s)"},
		{op(api.Add, 8, op(api.Mul, 8, a, b), op(api.Div, 8, a, b)), 2, "add2(mul2(resize2(a8), resize2(b8s)), resize2(div8(a8, b8s)))", "add2(mul2(resize2s(a8), resize2s(b8s)), resize2s(div8(a8, b8s)))"},
		{signed(op(api.Cond, 8, b, a, num(8, 200))), 4, "cond4s(b8s, resize4(a8), 4'8)", "cond4s(b8s, resize4s(a8), 4'8s)"}, {op(api.Cond, 8, b, a, a), 9, "resize9(cond8(b8s, a8, a8))", "resize9s(cond8(b8s, a8, a8))"},
		{op(api.Shl, 8, a, b), 4, "shl4(resize4(a8), b8s)", "shl4(resize4s(a8), b8s)"}, {op(api.Shl, 8, a, b), 9, "resize9(shl8(a8, b8s))", "resize9s(shl8(a8, b8s))"},
		{op(api.Shr, 8, a, b), 4, "resize4(shr8(a8, b8s))", "resize4s(shr8(a8, b8s))"}, {op(api.Sar, 8, a, b), 4, "resize4(sar8(a8, b8s))", "resize4s(sar8(a8, b8s))"}, {op(api.Div, 8, a, b), 4, "resize4(div8(a8, b8s))", "resize4s(div8(a8, b8s))"}, {op(api.Mod, 8, a, b), 4, "resize4(mod8(a8, b8s))", "resize4s(mod8(a8, b8s))"},
		{op(api.Resize, 16, a), 12, "resize12(a8)", "resize12(a8)"}, {signed(op(api.Resize, 16, a)), 12, "resize12s(a8)", "resize12s(a8)"}, {signed(op(api.Resize, 16, a)), 8, "a8", "a8"}, {signed(op(api.Resize, 16, a)), 4, "resize4s(a8)", "resize4s(a8)"}, {op(api.Resize, 6, a), 4, "resize4(a8)", "resize4(a8)"}, {op(api.Resize, 6, a), 7, "resize7(resize6(a8))", "resize7s(resize6(a8))"}, {op(api.Resize, 6, a), 6, "resize6(a8)", "resize6(a8)"},
		{signed(op(api.Resize, 16, op(api.Add, 8, a, b))), 4, "add4(resize4s(a8), resize4s(b8s))", "add4(resize4s(a8), resize4s(b8s))"}, {op(api.Resize, 16, signed(op(api.Resize, 12, c))), 4, "resize4s(g.x1)", "resize4s(g.x1)"}, {op(api.Resize, 16, num(4, 9)), 8, "8'9", "8'9"}, {signed(op(api.Resize, 16, num(4, 9))), 8, "8'249s", "8'249s"},
		{op(api.Cat, 16, a, b), 8, "resize8(cat16(a8, b8s))", "resize8s(cat16(a8, b8s))"}, {at(op(api.Rep, 16, a), 2), 4, "resize4(rep16@2(a8))", "resize4s(rep16@2(a8))"}, {at(op(api.Slice, 4, a), 2), 2, "resize2(slice4@2(a8))", "resize2s(slice4@2(a8))"}, {op(api.Part, 4, a, b), 2, "resize2(part4(a8, b8s))", "resize2s(part4(a8, b8s))"}, {op(api.Eq, 1, a, b), 2, "resize2(eq1(a8, b8s))", "resize2s(eq1(a8, b8s))"}, {at(op(api.Call, 8, a), 1), 2, "resize2(call8@1(a8))", "resize2s(call8@1(a8))"}, {op(api.Now, 64), 2, "resize2(now64)", "resize2s(now64)"}, {op(api.Elem, 8, b), 2, "resize2(a8[b8s])", "resize2s(a8[b8s])"},
	} {
		for i, want := range []string{x.plain, x.signs} {
			before := copyOf(x.e)
			e := width.Resized(x.e, x.w, i == 1)
			if show(e) != want {
				t.Errorf("%s to %d bits: %s, not %s", show(before), x.w, show(e), want)
			}
			spoil(&e)
			if !reflect.DeepEqual(x.e, before) {
				t.Fatalf("%s to %d bits: the argument was changed, or is a part of the result", show(before), x.w)
			}
		}
	}
}

// Z1, P10.2: Resized takes expressions and widths of any kind; a constant without a width becomes that of bits.Resize.
func TestResizedOdd(t *testing.T) {
	deep := ref(0, 8)
	for range 999 {
		deep = op(api.Add, 8, deep, num(8, 1))
	}
	for kind := -2; kind <= api.Now+2; kind++ {
		for n := range 5 {
			e := op(kind, 8)
			for range n {
				e.Kids = append(e.Kids, op(api.Resize, 9))
			}
			for _, w := range []int{-1 << 62, -1, 0, 1, 7, 8, 9, 65, 1 << 62} {
				width.Resized(e, w, true)
				width.Resized(op(api.Add, 1<<40, e, deep), w, false)
			}
		}
	}
	for _, w := range []int{-1, 0, 65} {
		if e := width.Resized(num(8, 3), w, false); e.Op != api.Const || e.N != bits.Resize(num(8, 3).N, w, false) {
			t.Errorf("a constant to %d bits: %+v", w, e)
		}
	}
}
