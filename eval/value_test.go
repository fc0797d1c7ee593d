package eval_test

import (
	"testing"

	"maskwright/api"
	"maskwright/bits"
	"maskwright/eval"
)

// valueRow is an expression and the states of its value.
type valueRow struct {
	e    api.Expr
	want string
}

// checkValues checks the values of expressions, as those of Value and of Expr.
func checkValues(t *testing.T, d api.Design, s eval.State, rows []valueRow) {
	t.Helper()
	m := machine(t, d)
	for i, r := range rows {
		b, e := m.Value(s, r.e)
		if e != api.OK || b != vec(r.want) {
			t.Errorf("row %d: %q, error %d, not %q", i, show(b), e, r.want)
		}
		if x, y := eval.Expr(d, s, r.e); x != b || y != e {
			t.Errorf("row %d: %v, error %d from Expr", i, x, y)
		}
	}
}

// mixed returns a state with bits of all kinds.
func mixed() eval.State {
	s := known()
	s.Sigs[sigA][0] = vec("01xz")
	s.Sigs[sigM][0], s.Sigs[sigM][2] = vec("z001"), vec("x1x0")
	s.Sigs[sigQ][0] = vec("1xz00110")
	return s
}

// P9.3: constants, signals, the time.
func TestLeaves(t *testing.T) {
	now := "000000000000000000000000000000000000000000000000000000" + "1111101000"
	checkValues(t, base(), mixed(), []valueRow{
		{lit("01xz"), "01xz"},
		{signed(lit("1")), "1"},
		{ref(sigA, 4), "01xz"},
		{ref(sigC, 1), "1"},
		{signed(ref(sigW, 4)), "0101"},
		{ref(sigQ, 8), "1xz00110"},
		{op(api.Now, 64), now},
		{signed(op(api.Now, 64)), now},
	})
	s := known()
	s.Now = 1<<63 + 5
	if b, e := machine(t, base()).Value(s, op(api.Now, 64)); e != api.OK || b != (api.Bits{W: 64, V: 1<<63 + 5}) {
		t.Error(b, e)
	}
}

// P9.3: the element that an index names.
func TestElem(t *testing.T) {
	checkValues(t, base(), mixed(), []valueRow{
		{elem(sigM, 4, num(2, 0)), "z001"},
		{elem(sigM, 4, num(64, 1)), "0010"},
		{elem(sigM, 4, num(2, 2)), "x1x0"},
		{elem(sigM, 4, num(2, 3)), "xxxx"},
		{elem(sigM, 4, num(7, 64)), "xxxx"},
		{elem(sigM, 4, num(64, 1<<63)), "xxxx"},
		{elem(sigM, 4, num(64, 1<<32)), "xxxx"},
		{elem(sigM, 4, lit("0x")), "xxxx"},
		{elem(sigM, 4, lit("z")), "xxxx"},
		{elem(sigM, 4, signed(num(2, 1))), "0010"},
		{elem(sigM, 4, signed(num(2, 2))), "xxxx"},
		{elem(sigM, 4, signed(num(3, 2))), "x1x0"},
		{elem(sigM, 4, signed(num(2, 3))), "xxxx"},
		{elem(sigM, 4, signed(num(64, 1<<63))), "xxxx"},
		{elem(sigM, 4, signed(lit("x0"))), "xxxx"},
		{signed(elem(sigM, 4, num(2, 2))), "x1x0"},
		{elem(sigA, 4, num(1, 0)), "01xz"},
		{elem(sigA, 4, num(1, 1)), "xxxx"},
		{elem(sigB, 4, elem(sigB, 4, num(4, 1))), "xxxx"},
		{elem(sigM, 4, elem(sigM, 4, num(4, 1))), "x1x0"},
		{elem(sigM, 4, elem(sigN, 2, num(4, 0))), "0010"},
	})
}

// P9.3: parts of values.
func TestParts(t *testing.T) {
	q := ref(sigQ, 8) // 1xz00110
	checkValues(t, base(), mixed(), []valueRow{
		{slice(3, 1, q), "011"},
		{slice(8, 0, q), "1xz00110"},
		{slice(1, 7, q), "1"},
		{slice(2, 2, elem(sigM, 4, num(2, 2))), "x1"},
		{slice(2, 1, op(api.Not, 8, q)), "00"},
		{part(3, q, num(4, 1)), "011"},
		{part(3, q, num(4, 6)), "x1x"},
		{part(2, q, num(4, 8)), "xx"},
		{part(2, q, num(64, 1<<63)), "xx"},
		{part(2, q, num(4, 15)), "xx"},
		{part(3, q, signed(num(4, 15))), "10x"},
		{part(3, q, signed(num(4, 13))), "xxx"},
		{part(10, q, signed(num(4, 15))), "x1xz00110x"},
		{signed(part(3, q, num(4, 15))), "xxx"},
		{part(3, signed(q), num(4, 15)), "xxx"},
		{part(3, q, lit("0x")), "xxx"},
		{part(3, q, signed(lit("z1"))), "xxx"},
		{part(2, lit("10"), num(1, 1)), "x1"},
		{op(api.Cat, 7, ref(sigA, 4), num(1, 1), lit("zx")), "01xz1zx"},
		{op(api.Cat, 4, ref(sigA, 4)), "01xz"},
		{at(api.Rep, 6, 3, lit("1x")), "1x1x1x"},
		{at(api.Rep, 4, 1, ref(sigA, 4)), "01xz"},
		{op(api.Resize, 2, ref(sigA, 4)), "xz"},
		{op(api.Resize, 6, lit("x1")), "0000x1"},
		{signed(op(api.Resize, 6, lit("x1"))), "xxxxx1"},
		{signed(op(api.Resize, 6, lit("10"))), "111110"},
		{op(api.Resize, 6, signed(lit("10"))), "000010"},
		{signed(op(api.Resize, 2, lit("0110"))), "10"},
	})
}

// P9.3: a few operations with their values, and a choice.
func TestOperations(t *testing.T) {
	checkValues(t, base(), mixed(), []valueRow{
		{op(api.Add, 4, ref(sigV, 4), num(4, 9)), "0010"},
		{op(api.Sub, 4, num(4, 1), ref(sigW, 4)), "1100"},
		{op(api.Mul, 4, num(4, 5), num(4, 5)), "1001"},
		{op(api.Div, 4, num(4, 13), num(4, 2)), "0110"},
		{signed(op(api.Div, 4, num(4, 13), num(4, 2))), "1111"},
		{op(api.Div, 4, signed(num(4, 13)), signed(num(4, 2))), "0110"},
		{op(api.Mod, 4, num(4, 13), num(4, 2)), "0001"},
		{signed(op(api.Mod, 4, num(4, 13), num(4, 2))), "1111"},
		{op(api.Mod, 4, num(4, 13), num(4, 0)), "xxxx"},
		{op(api.Lt, 1, num(4, 13), num(4, 2)), "0"},
		{signed(op(api.Lt, 1, num(4, 13), num(4, 2))), "1"},
		{op(api.Lt, 1, signed(num(4, 13)), signed(num(4, 2))), "0"},
		{op(api.Lt, 1, num(4, 2), num(4, 2)), "0"},
		{op(api.Le, 1, num(4, 2), num(4, 2)), "1"},
		{signed(op(api.Le, 1, num(4, 2), num(4, 13))), "0"},
		{op(api.Neg, 4, num(4, 3)), "1101"},
		{op(api.Shl, 4, num(4, 3), num(8, 2)), "1100"},
		{op(api.Shr, 4, lit("1x01"), num(8, 2)), "001x"},
		{op(api.Sar, 4, lit("1x01"), num(8, 2)), "111x"},
		{op(api.And, 4, ref(sigA, 4), num(4, 15)), "01xx"},
		{op(api.LAnd, 1, ref(sigA, 4), lit("0x")), "x"},
		{op(api.Ne, 1, ref(sigA, 4), num(4, 8)), "1"},
		{op(api.CaseEq, 1, ref(sigA, 4), lit("01xz")), "1"},
		{op(api.Cond, 4, num(2, 2), num(4, 1), ref(sigA, 4)), "0001"},
		{op(api.Cond, 4, num(2, 0), num(4, 1), ref(sigA, 4)), "01xz"},
		{op(api.Cond, 4, lit("x"), num(4, 5), num(4, 6)), "01xx"},
	})
}

// P9.3: all operations without a rule of their own are those of package bits, with Signed where it has a sign.
func TestOperationsAreThoseOfBits(t *testing.T) {
	type unary = func(a api.Bits) api.Bits
	type binary = func(a, b api.Bits) api.Bits
	type with = func(a, b api.Bits, signed bool) api.Bits
	ones := map[int]unary{api.Not: bits.Not, api.Neg: bits.Neg, api.RedAnd: bits.RedAnd, api.RedOr: bits.RedOr, api.RedXor: bits.RedXor, api.LNot: bits.LNot}
	twos := map[int]binary{
		api.LAnd: bits.LAnd, api.LOr: bits.LOr, api.And: bits.And, api.Or: bits.Or, api.Xor: bits.Xor, api.Add: bits.Add, api.Sub: bits.Sub, api.Mul: bits.Mul,
		api.Shl: bits.Shl, api.Shr: bits.Shr, api.Sar: bits.Sar, api.Eq: bits.Eq, api.Ne: bits.Ne, api.CaseEq: bits.CaseEq, api.CaseNe: bits.CaseNe,
	}
	signs := map[int]with{api.Div: bits.Div, api.Mod: bits.Mod, api.Lt: bits.Lt, api.Le: bits.Le}
	m, s := machine(t, base()), known()
	check := func(e api.Expr, want api.Bits) {
		t.Helper()
		e.W = want.W
		if b, err := m.Value(s, e); b != want || err != api.OK {
			t.Errorf("%+v: %q, error %d, not %q", e, show(b), err, show(want))
		}
	}
	list := []string{"0000", "0001", "0010", "1111", "1000", "0110", "1101", "x000", "0x11", "z1z0", "xz01", "zzzz", "xxxx", "100z"}
	for _, x := range list {
		for kind, f := range ones {
			check(op(kind, 0, lit(x)), f(vec(x)))
		}
		for _, y := range list {
			for kind, f := range twos {
				check(op(kind, 0, lit(x), lit(y)), f(vec(x), vec(y)))
			}
			for kind, f := range signs {
				check(op(kind, 0, lit(x), lit(y)), f(vec(x), vec(y), false))
				check(signed(op(kind, 0, lit(x), lit(y))), f(vec(x), vec(y), true))
				check(op(kind, 0, signed(lit(x)), signed(lit(y))), f(vec(x), vec(y), false))
			}
			for _, c := range list {
				check(op(api.Cond, 0, lit(c), lit(x), lit(y)), bits.Cond(vec(c), vec(x), vec(y)))
			}
		}
	}
}

// P9.3: the values of functions.
func TestCall(t *testing.T) {
	call := func(w, f int, args ...api.Expr) api.Expr { return at(api.Call, w, f, args...) }
	checkValues(t, base(), mixed(), []valueRow{
		{call(4, funcNot, num(4, 3)), "1100"},
		{call(4, funcNot, ref(sigA, 4)), "10xx"},
		{call(4, funcNot, call(4, funcNot, call(4, funcNot, num(4, 3)))), "1100"},
		{call(8, funcBoth, num(4, 3), ref(sigA, 4)), "110001xz"},
		{call(8, funcBoth, call(4, funcNot, num(4, 3)), slice(4, 4, call(8, funcBoth, num(4, 1), num(4, 2)))), "00111110"},
		{call(4, funcNone), "xxxx"},
		{signed(call(4, funcNone)), "xxxx"},
		{op(api.Add, 4, call(4, funcNot, num(4, 1)), call(4, funcNot, num(4, 2))), "1011"},
		{op(api.Cat, 2, spin(0), spin(1000)), "11"},
	})
}

// P9.3: variables of functions begin anew with each call, elements that were not assigned are x, and variables need not be arguments.
func TestVariablesOfFunctions(t *testing.T) {
	d := base()
	y, k, l := local(ref(1, 4)), local(ref(2, 4)), func(i uint64) api.Expr { return local(elem(3, 2, num(2, i))) }
	d.Funcs[funcNot] = api.Func{Name: "not", Args: 1, Vars: []api.Signal{variable("x", 4, 1), variable("y", 4, 1), variable("k", 4, 1), variable("l", 2, 3)}, Body: block(
		with(api.If, local(ref(0, 4)), block(set(k, num(4, 5)), set(l(1), num(2, 2)), set(local(ref(0, 4)), num(4, 9)))),
		set(y, op(api.Xor, 4, k, op(api.Cat, 4, l(0), l(1)))),
	)}
	one := at(api.Call, 4, funcNot, num(4, 1))
	zero := at(api.Call, 4, funcNot, num(4, 0))
	checkValues(t, d, known(), []valueRow{
		{one, "xx11"},
		{zero, "xxxx"},
		{op(api.Cat, 12, one, zero, one), "xx11xxxxxx11"},
	})
}

// P9.7: the errors of Value, in their order.
func TestErrorsOfValue(t *testing.T) {
	d := base()
	m := machine(t, d)
	good, bad := known(), badStates()[0]
	deep := num(4, 1)
	for range api.MaxDeep {
		deep = op(api.Not, 4, deep)
	}
	for i, r := range []struct {
		s    eval.State
		e    api.Expr
		want api.Errno
	}{
		{good, num(4, 1), api.OK},
		{bad, num(4, 1), api.ErrForm},
		{bad, num(0, 1), api.ErrForm},
		{bad, spin(1001), api.ErrForm},
		{good, api.Expr{}, api.ErrRange},
		{good, num(65, 1), api.ErrRange},
		{good, op(99, 4), api.ErrRange},
		{good, op(api.Add, 4, num(4, 1)), api.ErrForm},
		{good, op(api.Add, 4, num(4, 1), num(3, 1)), api.ErrWidth},
		{good, ref(99, 4), api.ErrNone},
		{good, ref(-1, 4), api.ErrNone},
		{good, local(ref(0, 4)), api.ErrNone},
		{good, ref(sigM, 4), api.ErrType},
		{good, ref(sigA, 3), api.ErrWidth},
		{good, at(api.Call, 4, 9), api.ErrNone},
		{good, at(api.Call, 4, funcNot), api.ErrForm},
		{good, deep, api.ErrLarge},
		{good, deep.Kids[0], api.OK},
		{good, op(api.Add, 1, spin(1001), num(3, 1)), api.ErrWidth},
		{good, spin(1000), api.OK},
		{good, spin(1001), api.ErrLarge},
		{good, spin(65535), api.ErrLarge},
		{good, op(api.Cat, 2, spin(500), spin(500)), api.OK},
		{good, op(api.Cat, 2, spin(500), spin(501)), api.ErrLarge},
		{good, elem(sigM, 4, spin(1001)), api.ErrLarge},
		{good, part(4, ref(sigA, 4), spin(1001)), api.ErrLarge},
		{good, op(api.LOr, 1, num(1, 1), spin(1001)), api.ErrLarge},
		{good, op(api.Cond, 1, num(1, 1), num(1, 0), spin(1001)), api.ErrLarge},
		{good, op(api.Not, 1, spin(1001)), api.ErrLarge},
	} {
		b, e := m.Value(r.s, r.e)
		if e != r.want || (e != api.OK) != (b == api.Bits{}) {
			t.Errorf("row %d: %v, error %d, not %d", i, b, e, r.want)
		}
		if x, y := eval.Expr(d, r.s, r.e); x != b || y != e {
			t.Errorf("row %d: %v, error %d from Expr", i, x, y)
		}
	}
}

// P9.10: Expr has the errors of New first.
func TestExprOfBadDesign(t *testing.T) {
	d := base()
	d.Name = "a b"
	for _, s := range []eval.State{known(), {}} {
		if b, e := eval.Expr(d, s, num(1, 1)); b != (api.Bits{}) || e != api.ErrName {
			t.Error(b, e)
		}
		if x, puts, e := eval.Body(d, s, 0); !isNone(x, puts) || e != api.ErrName {
			t.Error(x, puts, e)
		}
	}
}
