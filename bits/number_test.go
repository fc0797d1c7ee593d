package bits_test

import (
	"math"
	"math/big"
	"strings"
	"testing"

	"maskwright/api"
	"maskwright/bits"
)

// bigOf returns the number of a known vector.
func bigOf(b api.Bits, signed bool) *big.Int {
	n := new(big.Int).SetUint64(b.V)
	if signed && b.V>>(b.W-1) == 1 {
		n.Sub(n, new(big.Int).Lsh(big.NewInt(1), uint(b.W)))
	}
	return n
}

// modulo returns the vector of w bits for a number.
func modulo(w int, n *big.Int) api.Bits {
	m := new(big.Int).Lsh(big.NewInt(1), uint(w))
	return api.Bits{W: w, V: new(big.Int).Mod(n, m).Uint64()}
}

// numberPair checks the numbers of P1.5 for two known vectors.
func numberPair(t *testing.T, a, b api.Bits) {
	t.Helper()
	x, y := bigOf(a, false), bigOf(b, false)
	for _, c := range []struct {
		what string
		got  api.Bits
		want *big.Int
	}{
		{"Neg", bits.Neg(a), new(big.Int).Neg(x)},
		{"Add", bits.Add(a, b), new(big.Int).Add(x, y)},
		{"Sub", bits.Sub(a, b), new(big.Int).Sub(x, y)},
		{"Mul", bits.Mul(a, b), new(big.Int).Mul(x, y)},
	} {
		if c.got != modulo(a.W, c.want) {
			t.Errorf("%s %+v %+v: %+v", c.what, a, b, c.got)
		}
	}
	for _, signed := range []bool{false, true} {
		q, r := bits.Div(a, b, signed), bits.Mod(a, b, signed)
		if b.V == 0 {
			same(t, "Div", q, strings.Repeat("x", a.W))
			same(t, "Mod", r, strings.Repeat("x", a.W))
			continue
		}
		x, y := bigOf(a, signed), bigOf(b, signed)
		if q != modulo(a.W, new(big.Int).Quo(x, y)) || r != modulo(a.W, new(big.Int).Rem(x, y)) {
			t.Errorf("Div, Mod %+v %+v %v: %+v %+v", a, b, signed, q, r)
		}
	}
}

// P1.5

func TestNumbersOfFewBits(t *testing.T) {
	for w := 1; w <= 5; w++ {
		for a := range uint64(1) << w {
			for b := range uint64(1) << w {
				numberPair(t, api.Bits{W: w, V: a}, api.Bits{W: w, V: b})
			}
		}
	}
}

func TestNumbersOfManyBits(t *testing.T) {
	var s source
	for w := 6; w <= 64; w++ {
		list := []api.Bits{{W: w}, {W: w, V: 1}, {W: w, V: ones(w)}, {W: w, V: 1 << (w - 1)}, {W: w, V: ones(w - 1)}}
		for range 10 {
			list = append(list, s.known(w))
		}
		for _, a := range list {
			for _, b := range list {
				numberPair(t, a, b)
			}
		}
	}
}

func TestSignsOfQuotients(t *testing.T) {
	for _, c := range []struct{ a, b, q, r int64 }{
		{7, 2, 3, 1}, {-7, 2, -3, -1}, {7, -2, -3, 1}, {-7, -2, 3, -1}, {-6, 2, -3, 0}, {1, -3, 0, 1}, {-8, -1, -8, 0}, {-8, 1, -8, 0},
	} {
		a, b := bits.Of(4, uint64(c.a)), bits.Of(4, uint64(c.b))
		if bits.Div(a, b, true) != bits.Of(4, uint64(c.q)) || bits.Mod(a, b, true) != bits.Of(4, uint64(c.r)) {
			t.Errorf("%+v: %+v %+v", c, bits.Div(a, b, true), bits.Mod(a, b, true))
		}
	}
	least, minus := bits.Of(64, 1<<63), bits.All(64, '1')
	if bits.Div(least, minus, true) != least || bits.Mod(least, minus, true) != bits.Of(64, 0) {
		t.Error("least")
	}
	if bits.Div(least, minus, false) != bits.Of(64, 0) || bits.Mod(least, minus, false) != least {
		t.Error("unsigned")
	}
}

// pairFunctions returns the functions of P1.5 with two operands.
func pairFunctions() map[string]binary {
	return map[string]binary{
		"Add": bits.Add, "Sub": bits.Sub, "Mul": bits.Mul,
		"Div": func(a, b api.Bits) api.Bits { return bits.Div(a, b, false) }, "Div signed": func(a, b api.Bits) api.Bits { return bits.Div(a, b, true) },
		"Mod": func(a, b api.Bits) api.Bits { return bits.Mod(a, b, false) }, "Mod signed": func(a, b api.Bits) api.Bits { return bits.Mod(a, b, true) },
	}
}

func TestNumbersOfUnknownBits(t *testing.T) {
	for _, a := range upTo(3, "01xz") {
		if strings.ContainsAny(a, "xz") {
			same(t, "Neg "+a, bits.Neg(vec(a)), strings.Repeat("x", len(a)))
		}
		for _, b := range texts(len(a), "01xz") {
			if !strings.ContainsAny(a+b, "xz") {
				continue
			}
			for what, f := range pairFunctions() {
				same(t, what+" "+a+" "+b, f(vec(a), vec(b)), strings.Repeat("x", len(a)))
			}
		}
	}
	one := bits.Of(64, 1)
	for _, b := range []api.Bits{{W: 64, X: 1 << 63}, {W: 64, V: 1, X: 1}} {
		for what, f := range pairFunctions() {
			same(t, what, f(one, b), strings.Repeat("x", 64))
			same(t, what, f(b, one), strings.Repeat("x", 64))
			same(t, what, f(b, bits.Of(64, 0)), strings.Repeat("x", 64))
		}
	}
}

func TestNumbersOfOtherWidths(t *testing.T) {
	for what, f := range pairFunctions() {
		for _, a := range []string{"1", "0", "11", "xx", "z"} {
			for _, b := range []string{"000", "001", "xxx", "0010"} {
				empty(t, what, f(vec(a), vec(b)))
				empty(t, what, f(vec(b), vec(a)))
			}
		}
	}
}

// P1.6

// shifted moves the states of a text; fill comes in.
func shifted(s string, by uint64, fill string, up bool) string {
	by = min(by, uint64(len(s)))
	in := strings.Repeat(fill, int(by))
	if up {
		return s[by:] + in
	}
	return in + s[:uint64(len(s))-by]
}

func shiftOne(t *testing.T, s string, n api.Bits) {
	t.Helper()
	a := vec(s)
	if n.X != 0 {
		all := strings.Repeat("x", len(s))
		same(t, "Shl "+s, bits.Shl(a, n), all)
		same(t, "Shr "+s, bits.Shr(a, n), all)
		same(t, "Sar "+s, bits.Sar(a, n), all)
		return
	}
	same(t, "Shl "+s, bits.Shl(a, n), shifted(s, n.V, "0", true))
	same(t, "Shr "+s, bits.Shr(a, n), shifted(s, n.V, "0", false))
	same(t, "Sar "+s, bits.Sar(a, n), shifted(s, n.V, s[:1], false))
}

func TestShifts(t *testing.T) {
	for _, s := range upTo(4, "01xz") {
		for _, n := range upTo(3, "01xz") {
			shiftOne(t, s, vec(n))
		}
	}
	var r source
	for w := 5; w <= 64; w++ {
		for _, a := range []api.Bits{r.vector(w), r.known(w), {W: w, V: ones(w)}, {W: w, X: 1 << (w - 1)}, {W: w, V: 1 << (w - 1), X: 1 << (w - 1)}} {
			for n := range uint64(70) {
				shiftOne(t, show(a), api.Bits{W: 7, V: n})
			}
			for _, n := range []uint64{1 << 31, 1 << 32, 1<<32 + 1, 1 << 62, 1<<63 - 1, 1 << 63, 1<<63 + 1, math.MaxUint64} {
				shiftOne(t, show(a), api.Bits{W: 64, V: n})
			}
			shiftOne(t, show(a), api.Bits{W: 64, X: 1 << 63})
		}
	}
}
