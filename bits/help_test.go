package bits_test

import (
	"math"
	"strings"
	"testing"

	"maskwright/api"
)

// none is what functions return where there is no vector.
var none = api.Bits{}

// vec returns the vector with these states, the highest bit first; it uses nothing of the package under test.
func vec(states string) api.Bits {
	b := api.Bits{W: len(states)}
	for _, c := range states {
		b.V <<= 1
		b.X <<= 1
		if c == '1' || c == 'x' {
			b.V |= 1
		}
		if c == 'z' || c == 'x' {
			b.X |= 1
		}
	}
	return b
}

// show returns the states of a vector, the highest bit first; it uses nothing of the package under test.
func show(b api.Bits) string {
	var s strings.Builder
	for i := b.W - 1; i >= 0; i-- {
		v, x := b.V>>i&1, b.X>>i&1
		s.WriteByte("01zx"[2*x+v])
	}
	return s.String()
}

// texts returns all texts of n characters of the alphabet.
func texts(n int, alphabet string) []string {
	list := []string{""}
	for range n {
		var longer []string
		for _, s := range list {
			for _, c := range alphabet {
				longer = append(longer, s+string(c))
			}
		}
		list = longer
	}
	return list
}

// upTo returns the texts of 1 to n characters of the alphabet.
func upTo(n int, alphabet string) []string {
	var list []string
	for k := 1; k <= n; k++ {
		list = append(list, texts(k, alphabet)...)
	}
	return list
}

// badVectors returns vectors that are not valid.
func badVectors() []api.Bits {
	return []api.Bits{
		{}, {V: 1}, {W: -1}, {W: 65}, {W: 66, V: 1}, {W: 128}, {W: math.MinInt}, {W: math.MaxInt},
		{W: 1, V: 2}, {W: 1, X: 2}, {W: 1, V: 2, X: 2}, {W: 4, V: 16}, {W: 4, X: 1 << 63}, {W: 63, V: 1 << 63}, {W: 63, X: 1 << 63},
	}
}

// goodVectors returns vectors of many widths with all states.
func goodVectors() []api.Bits {
	list := []api.Bits{
		vec("0"), vec("1"), vec("x"), vec("z"), vec("01xz"), vec("1000"), vec("1111"), vec("zz10x"),
		{W: 63, V: 1<<63 - 1}, {W: 63, X: 1 << 62},
		{W: 64}, {W: 64, V: math.MaxUint64}, {W: 64, V: 1 << 63}, {W: 64, X: 1 << 63}, {W: 64, V: math.MaxUint64, X: 1},
	}
	return list
}

// source makes numbers that are the same in each run.
type source struct{ state uint64 }

func (s *source) next() uint64 {
	s.state += 0x9e3779b97f4a7c15
	z := s.state
	z = (z ^ z>>30) * 0xbf58476d1ce4e5b9
	z = (z ^ z>>27) * 0x94d049bb133111eb
	return z ^ z>>31
}

func ones(w int) uint64 {
	if w == 64 {
		return math.MaxUint64
	}
	return 1<<w - 1
}

// vector returns a vector of four states.
func (s *source) vector(w int) api.Bits {
	b := s.known(w)
	b.X = s.next() & s.next() & ones(w)
	return b
}

// known returns a known vector; small, large and mixed numbers are all likely.
func (s *source) known(w int) api.Bits {
	v := s.next()
	switch kind := s.next() % 4; kind {
	case 0:
		v >>= s.next() % 64
	case 1:
		v = -(v >> (s.next() % 64))
	}
	return api.Bits{W: w, V: v & ones(w)}
}

// same compares the states of a vector with those expected.
func same(t *testing.T, what string, got api.Bits, want string) {
	t.Helper()
	if got.W != len(want) || show(got) != want || got != vec(want) {
		t.Errorf("%s: %q, want %q", what, show(got), want)
	}
}

// empty checks that there is no vector.
func empty(t *testing.T, what string, got api.Bits) {
	t.Helper()
	if got != none {
		t.Errorf("%s: %+v, want none", what, got)
	}
}
