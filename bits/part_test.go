package bits_test

import (
	"math"
	"strings"
	"testing"

	"maskwright/api"
	"maskwright/bits"
)

// bitOf returns the state of a bit of a text, and x for one that it does not have.
func bitOf(s string, i int64) byte {
	if i < 0 || i >= int64(len(s)) {
		return 'x'
	}
	return s[int64(len(s))-1-i]
}

// positions returns places in and around a vector, near and far.
func positions() []int {
	list := []int{math.MinInt, math.MinInt + 1, math.MaxInt, math.MaxInt - 1, -1 << 32, 1 << 32, 1<<32 + 1}
	for at := -130; at <= 130; at++ {
		list = append(list, at)
	}
	return list
}

// P1.10

func TestCat(t *testing.T) {
	for _, l := range [][]string{
		{"0"}, {"x"}, {"01", "101"}, {"101", "01"}, {"z", "1", "x0"}, {"zx10", "1"}, {"1", strings.Repeat("z", 63)}, {strings.Repeat("x", 63), "0"},
		{strings.Repeat("01xz", 16)}, {strings.Repeat("01", 16), strings.Repeat("xz", 16)}, {"1", "1", strings.Repeat("z0", 31)},
	} {
		var list []api.Bits
		for _, s := range l {
			list = append(list, vec(s))
		}
		same(t, "Cat", bits.Cat(list), strings.Join(l, ""))
	}
	many := make([]api.Bits, 64)
	for i := range many {
		many[i] = vec("01xz"[i%4 : i%4+1])
	}
	same(t, "Cat of 64", bits.Cat(many), strings.Repeat("01xz", 16))
	empty(t, "Cat of 65", bits.Cat(append(many, vec("1"))))
	empty(t, "Cat of 128", bits.Cat([]api.Bits{bits.All(64, '1'), bits.All(64, '1')}))
	empty(t, "Cat of 65", bits.Cat([]api.Bits{bits.All(64, '1'), vec("1")}))
	empty(t, "Cat of 65", bits.Cat([]api.Bits{vec("1"), bits.All(64, '1')}))
	empty(t, "Cat of nil", bits.Cat(nil))
	empty(t, "Cat of nothing", bits.Cat([]api.Bits{}))
	for _, bad := range badVectors() {
		empty(t, "Cat", bits.Cat([]api.Bits{bad}))
		empty(t, "Cat", bits.Cat([]api.Bits{vec("10"), bad}))
		empty(t, "Cat", bits.Cat([]api.Bits{bad, vec("10")}))
		empty(t, "Cat", bits.Cat([]api.Bits{vec("1"), bad, vec("10")}))
	}
}

func TestRep(t *testing.T) {
	for _, s := range []string{"0", "1", "x", "z", "10", "01xz", strings.Repeat("z", 21), strings.Repeat("1x", 16), strings.Repeat("1", 33), strings.Repeat("01xz", 16)} {
		for n := -2; n <= 70; n++ {
			if n >= 1 && n*len(s) <= 64 {
				same(t, "Rep", bits.Rep(vec(s), n), strings.Repeat(s, n))
			} else {
				empty(t, "Rep", bits.Rep(vec(s), n))
			}
		}
		for _, n := range []int{math.MinInt, math.MaxInt, 1 << 32, 1 << 58, 1 << 62, 1<<62 + 1, 1<<61 + 1} {
			empty(t, "Rep", bits.Rep(vec(s), n))
		}
	}
}

// P1.11

func TestSlice(t *testing.T) {
	for _, s := range []string{"0", "z", "x1", "10100011", "01xz01xz1", strings.Repeat("01xz", 16), strings.Repeat("zx1", 21)} {
		for _, at := range positions() {
			for _, w := range []int{math.MinInt, -1, 0, 1, 2, 3, 4, 8, 9, 31, 62, 63, 64, 65, 66, math.MaxInt} {
				if at < 0 || w < 1 || at >= len(s) || w > len(s)-at {
					empty(t, "Slice", bits.Slice(vec(s), at, w))
				} else {
					same(t, "Slice", bits.Slice(vec(s), at, w), s[len(s)-at-w:len(s)-at])
				}
			}
		}
	}
}

// partText is what Part must return for a known position.
func partText(s string, at int64, w int) string {
	r := make([]byte, w)
	for k := range r {
		i := int64(w - 1 - k)
		r[k] = 'x'
		if at <= math.MaxInt64-i {
			r[k] = bitOf(s, at+i)
		}
	}
	return string(r)
}

func TestPart(t *testing.T) {
	widths := []int{1, 2, 3, 5, 8, 31, 63, 64}
	for _, s := range []string{"0", "z", "x1", "10100011", "01xz01xz1", strings.Repeat("01xz", 16), strings.Repeat("zx1", 21)} {
		for _, w := range widths {
			for _, at := range positions() {
				same(t, "Part", bits.Part(vec(s), bits.Of(64, uint64(at)), true, w), partText(s, int64(at), w))
				if at >= 0 {
					same(t, "Part", bits.Part(vec(s), bits.Of(64, uint64(at)), false, w), partText(s, int64(at), w))
				} else {
					same(t, "Part", bits.Part(vec(s), bits.Of(64, uint64(at)), false, w), strings.Repeat("x", w))
				}
			}
			for at := range int64(16) {
				same(t, "Part", bits.Part(vec(s), bits.Of(4, uint64(at)), false, w), partText(s, at, w))
				same(t, "Part", bits.Part(vec(s), bits.Of(4, uint64(at-8)), true, w), partText(s, at-8, w))
			}
		}
	}
}

func TestPartFromSmallNumbers(t *testing.T) {
	b := vec("10100011")
	same(t, "unsigned", bits.Part(b, vec("1"), false, 3), "001")
	same(t, "signed", bits.Part(b, vec("1"), true, 3), "11x")
	same(t, "unsigned", bits.Part(b, vec("111"), false, 2), "x1")
	same(t, "signed", bits.Part(b, vec("111"), true, 2), "1x")
}

func TestPartWithoutPosition(t *testing.T) {
	for _, at := range []string{"x", "z", "0x", "z1", "x" + strings.Repeat("0", 63)} {
		for _, w := range []int{1, 2, 4, 5, 64} {
			same(t, "Part", bits.Part(vec("0101"), vec(at), false, w), strings.Repeat("x", w))
			same(t, "Part", bits.Part(vec("0101"), vec(at), true, w), strings.Repeat("x", w))
		}
	}
	for _, at := range []string{"0", "1", "x", "11"} {
		for _, w := range []int{0, -1, 65, 66, math.MinInt, math.MaxInt} {
			empty(t, "Part", bits.Part(vec("0101"), vec(at), false, w))
			empty(t, "Part", bits.Part(vec("0101"), vec(at), true, w))
		}
	}
}

// putText is what Put must return.
func putText(s string, at int, part string) string {
	r := []byte(s)
	for k := range r {
		i := len(s) - 1 - k
		if at >= -64 && i >= at && i-at < len(part) {
			r[k] = bitOf(part, int64(i-at))
		}
	}
	return string(r)
}

func TestPut(t *testing.T) {
	list := []string{"0", "z", "x1", "10100011", "01xz01xz1", strings.Repeat("01xz", 16), strings.Repeat("zx1", 21)}
	for _, s := range list {
		for _, part := range list {
			for _, at := range positions() {
				same(t, "Put", bits.Put(vec(s), at, vec(part)), putText(s, at, part))
			}
		}
	}
	same(t, "Put", bits.Put(vec("10100011"), -1, vec("000")), "10100000")
	same(t, "Put", bits.Put(vec("10100011"), 7, vec("000")), "00100011")
	same(t, "Put", bits.Put(vec("10100011"), 3, vec("zx0")), "10zx0011")
	same(t, "Put", bits.Put(vec("10100011"), 8, vec("1")), "10100011")
}

// P1.12

func TestResize(t *testing.T) {
	list := append(upTo(3, "01xz"), strings.Repeat("01xz", 16), strings.Repeat("zx1", 21))
	for _, s := range list {
		for w := 1; w <= 64; w++ {
			plain, signed := strings.Repeat("0", 64)+s, strings.Repeat(s[:1], 64)+s
			same(t, "Resize", bits.Resize(vec(s), w, false), plain[len(plain)-w:])
			same(t, "Resize", bits.Resize(vec(s), w, true), signed[len(signed)-w:])
		}
		for _, w := range []int{0, -1, 65, 66, 128, math.MinInt, math.MaxInt} {
			empty(t, "Resize", bits.Resize(vec(s), w, false))
			empty(t, "Resize", bits.Resize(vec(s), w, true))
		}
	}
}
