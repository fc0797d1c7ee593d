package bits_test

import (
	"math"
	"strings"
	"testing"

	"maskwright/api"
	"maskwright/bits"
)

// P1.1

func TestCheck(t *testing.T) {
	for _, b := range goodVectors() {
		if e := bits.Check(b); e != api.OK {
			t.Errorf("%+v: %d", b, e)
		}
	}
	for _, c := range []struct {
		b    api.Bits
		want api.Errno
	}{
		{api.Bits{}, api.ErrRange},
		{api.Bits{V: 1}, api.ErrRange},
		{api.Bits{W: -1}, api.ErrRange},
		{api.Bits{W: -1, V: 3, X: 4}, api.ErrRange},
		{api.Bits{W: 65}, api.ErrRange},
		{api.Bits{W: 65, V: math.MaxUint64, X: 1}, api.ErrRange},
		{api.Bits{W: math.MinInt}, api.ErrRange},
		{api.Bits{W: math.MaxInt}, api.ErrRange},
		{api.Bits{W: 1, V: 2}, api.ErrForm},
		{api.Bits{W: 1, X: 2}, api.ErrForm},
		{api.Bits{W: 4, V: 16, X: 16}, api.ErrForm},
		{api.Bits{W: 63, V: 1 << 63}, api.ErrForm},
		{api.Bits{W: 63, X: 1 << 63}, api.ErrForm},
	} {
		if e := bits.Check(c.b); e != c.want {
			t.Errorf("%+v: %d, want %d", c.b, e, c.want)
		}
	}
}

func TestCheckAtEachWidth(t *testing.T) {
	for w := 1; w <= 64; w++ {
		if bits.Check(api.Bits{W: w, V: ones(w), X: ones(w)}) != api.OK {
			t.Error("full", w)
		}
		for i := w; i < 64; i++ {
			if bits.Check(api.Bits{W: w, V: 1 << i}) != api.ErrForm || bits.Check(api.Bits{W: w, X: 1 << i}) != api.ErrForm {
				t.Error("above", w, i)
			}
		}
	}
}

func TestOf(t *testing.T) {
	same(t, "Of", bits.Of(4, 5), "0101")
	same(t, "Of", bits.Of(4, 0xf5), "0101")
	same(t, "Of", bits.Of(1, 3), "1")
	same(t, "Of", bits.Of(1, 2), "0")
	same(t, "Of", bits.Of(64, math.MaxUint64), strings.Repeat("1", 64))
	same(t, "Of", bits.Of(63, math.MaxUint64), strings.Repeat("1", 63))
	for _, w := range []int{0, -1, 65, math.MinInt, math.MaxInt} {
		empty(t, "Of", bits.Of(w, 1))
		empty(t, "Of", bits.Of(w, 0))
	}
}

func TestAll(t *testing.T) {
	for _, w := range []int{1, 2, 5, 63, 64} {
		for _, state := range "01xz" {
			same(t, "All", bits.All(w, byte(state)), strings.Repeat(string(state), w))
		}
	}
	for _, w := range []int{0, -1, 65, math.MinInt, math.MaxInt} {
		for _, state := range "01xz" {
			empty(t, "All", bits.All(w, byte(state)))
		}
	}
	for c := range 256 {
		if !strings.ContainsRune("01xz", rune(c)) {
			empty(t, "All", bits.All(4, byte(c)))
		}
	}
}

func TestBit(t *testing.T) {
	for _, s := range []string{"0", "1", "x", "z", "01xz", "zx10", "zzzz1", strings.Repeat("01xz", 16), strings.Repeat("zx10", 16)} {
		b := vec(s)
		for i := range len(s) {
			if got := bits.Bit(b, i); got != s[len(s)-1-i] {
				t.Errorf("bit %d of %s: %c", i, s, got)
			}
		}
		for _, i := range []int{-1, len(s), len(s) + 1, 64, 65, math.MinInt, math.MaxInt} {
			if got := bits.Bit(b, i); got != 0 {
				t.Errorf("bit %d of %s: %d", i, s, got)
			}
		}
	}
	for _, b := range badVectors() {
		for _, i := range []int{-1, 0, 1, 63, 64} {
			if got := bits.Bit(b, i); got != 0 {
				t.Errorf("bit %d of %+v: %d", i, b, got)
			}
		}
	}
}

// P1.2

func TestKnown(t *testing.T) {
	for _, s := range upTo(4, "01xz") {
		if got := bits.Known(vec(s)); got != !strings.ContainsAny(s, "xz") {
			t.Error(s, got)
		}
	}
	for w := 1; w <= 64; w++ {
		if !bits.Known(api.Bits{W: w, V: ones(w)}) || bits.Known(api.Bits{W: w, X: 1 << (w - 1)}) || bits.Known(api.Bits{W: w, V: 1, X: 1}) {
			t.Error(w)
		}
	}
	for _, b := range badVectors() {
		if bits.Known(b) {
			t.Errorf("%+v", b)
		}
	}
}

func TestUintAndInt(t *testing.T) {
	for _, c := range []struct {
		b api.Bits
		u uint64
		i int64
	}{
		{vec("0"), 0, 0}, {vec("1"), 1, -1}, {vec("0111"), 7, 7}, {vec("1000"), 8, -8}, {vec("1111"), 15, -1},
		{vec("11001000"), 200, -56},
		{api.Bits{W: 63, V: 1 << 62}, 1 << 62, -1 << 62},
		{api.Bits{W: 63, V: 1<<62 - 1}, 1<<62 - 1, 1<<62 - 1},
		{api.Bits{W: 64, V: 1 << 63}, 1 << 63, math.MinInt64},
		{api.Bits{W: 64, V: 1<<63 - 1}, 1<<63 - 1, math.MaxInt64},
		{api.Bits{W: 64, V: math.MaxUint64}, math.MaxUint64, -1},
	} {
		if u, ok := bits.Uint(c.b); u != c.u || !ok {
			t.Errorf("Uint %+v: %d %v", c.b, u, ok)
		}
		if i, ok := bits.Int(c.b); i != c.i || !ok {
			t.Errorf("Int %+v: %d %v", c.b, i, ok)
		}
	}
	for _, b := range append(badVectors(), vec("x"), vec("z"), vec("1x"), vec("z1"), api.Bits{W: 64, V: 5, X: 1 << 63}) {
		if u, ok := bits.Uint(b); u != 0 || ok {
			t.Errorf("Uint %+v: %d %v", b, u, ok)
		}
		if i, ok := bits.Int(b); i != 0 || ok {
			t.Errorf("Int %+v: %d %v", b, i, ok)
		}
	}
}

// condition is what True must return for these states.
func condition(s string) int {
	switch {
	case strings.Contains(s, "1"):
		return 1
	case strings.Trim(s, "0") == "":
		return 0
	}
	return -1
}

func TestTrue(t *testing.T) {
	for _, s := range upTo(4, "01xz") {
		if got := bits.True(vec(s)); got != condition(s) {
			t.Error(s, got)
		}
	}
	for i := range 64 {
		if bits.True(api.Bits{W: 64, V: 1 << i}) != 1 || bits.True(api.Bits{W: 64, X: 1 << i}) != -1 || bits.True(api.Bits{W: 64, V: 1 << i, X: 1 << i}) != -1 {
			t.Error(i)
		}
	}
	for _, b := range badVectors() {
		if got := bits.True(b); got != 0 {
			t.Errorf("%+v: %d", b, got)
		}
	}
}
