package design

import (
	"slices"
	"strconv"
	"strings"
	"testing"

	"maskwright/api"
)

// P8.1: each byte alone.
func TestBytesOfParts(t *testing.T) {
	for c := range 256 {
		s := string([]byte{byte(c)})
		want := c > 32 && c < 127 && !strings.Contains(".[]\"\\", s)
		if Part(s) != want || Part("a"+s+"b") != want {
			t.Errorf("Part of byte %d is not %v", c, want)
		}
		want = want || c == '.'
		if Name("a"+s+"b") != want {
			t.Errorf("Name with byte %d is not %v", c, want)
		}
	}
}

// P8.1: lengths of parts and names.
func TestNames(t *testing.T) {
	long := strings.Repeat("x", api.MaxName)
	for _, x := range []struct {
		s          string
		part, name bool
	}{
		{"", false, false},
		{"a", true, true},
		{"x|y", true, true},
		{"!", true, true},
		{"~", true, true},
		{"é", false, false},
		{"a b", false, false},
		{".", false, false},
		{"a.", false, false},
		{".a", false, false},
		{"a..b", false, false},
		{"a.b", false, true},
		{"a.b.c.d", false, true},
		{"a[0]", false, false},
		{"a.b[0]", false, false},
		{long, true, true},
		{long + "x", false, false},
		{long + "." + long, false, true},
		{long + "." + long + "." + long[2:], false, true},
		{long + "." + long + "." + long[1:], false, false},
		{long + "x.a", false, false},
		{"a." + long + "x", false, false},
		{strings.Repeat("a.", 59) + "ab", false, true},
		{strings.Repeat("a.", 60) + "a", false, false},
	} {
		if Part(x.s) != x.part || Name(x.s) != x.name {
			t.Errorf("%q: Part %v, Name %v", x.s, Part(x.s), Name(x.s))
		}
	}
}

// P8.1: the names of the bits of signals of all sizes.
func TestBits(t *testing.T) {
	for w := -1; w <= api.MaxWidth+1; w++ {
		for n := -1; n <= api.MaxElems+1; n++ {
			got := Bits(api.Signal{Name: "a.b", W: w, Elems: n})
			if want := bitNames("a.b", w, n); !slices.Equal(got, want) {
				t.Errorf("%d bits, %d elements: %q", w, n, got)
			}
		}
	}
	if got := Bits(api.Signal{W: 2, Elems: 1, Port: 9, Kind: -1}); !slices.Equal(got, []string{"[0]", "[1]"}) {
		t.Errorf("a signal that is not valid: %q", got)
	}
}

// bitNames is a model of Bits.
func bitNames(name string, w, n int) []string {
	if w < 1 || w > 64 || n < 1 || n > 32 {
		return nil
	}
	list := []string{name}
	for _, size := range []int{n, w} {
		var longer []string
		for _, s := range list {
			for i := 0; i < size && size > 1; i++ {
				longer = append(longer, s+"["+strconv.Itoa(i)+"]")
			}
		}
		if size > 1 {
			list = longer
		}
	}
	return list
}

// P8.4: a name is never too long for its bits, whatever their number is.
func TestLongestNameOfBit(t *testing.T) {
	d := base()
	long := strings.Repeat("x", api.MaxName)
	d.Signals[sigM].Name = long + "." + long + "." + long[2:]
	d.Signals[sigM].Elems, d.Signals[sigM].W = api.MaxElems, api.MaxWidth
	if e := Check(d); e != api.OK {
		t.Error(e)
	}
	if names := Bits(d.Signals[sigM]); len(names[len(names)-1]) != api.MaxBit {
		t.Error("not the longest name")
	}
}
