package bits_test

import (
	"math"
	"slices"
	"strings"
	"testing"

	"maskwright/api"
	"maskwright/bits"
)

type unary = func(a api.Bits) api.Bits

// unaries returns all functions of one vector.
func unaries() map[string]unary {
	return map[string]unary{
		"Not": bits.Not, "RedAnd": bits.RedAnd, "RedOr": bits.RedOr, "RedXor": bits.RedXor, "LNot": bits.LNot, "Neg": bits.Neg,
		"Rep":           func(a api.Bits) api.Bits { return bits.Rep(a, 1) },
		"Slice":         func(a api.Bits) api.Bits { return bits.Slice(a, 0, 1) },
		"Resize":        func(a api.Bits) api.Bits { return bits.Resize(a, 70-max(a.W, 6), false) },
		"Resize signed": func(a api.Bits) api.Bits { return bits.Resize(a, 70-max(a.W, 6), true) },
		"Cat":           func(a api.Bits) api.Bits { return bits.Cat([]api.Bits{a}) },
	}
}

// binaries returns all functions of two vectors of the same width.
func binaries() map[string]binary {
	return map[string]binary{
		"And": bits.And, "Or": bits.Or, "Xor": bits.Xor, "Add": bits.Add, "Sub": bits.Sub, "Mul": bits.Mul,
		"Div":        func(a, b api.Bits) api.Bits { return bits.Div(a, b, false) },
		"Div signed": func(a, b api.Bits) api.Bits { return bits.Div(a, b, true) },
		"Mod":        func(a, b api.Bits) api.Bits { return bits.Mod(a, b, false) },
		"Mod signed": func(a, b api.Bits) api.Bits { return bits.Mod(a, b, true) },
		"Eq":         bits.Eq, "Ne": bits.Ne, "CaseEq": bits.CaseEq, "CaseNe": bits.CaseNe,
		"Lt":        func(a, b api.Bits) api.Bits { return bits.Lt(a, b, false) },
		"Lt signed": func(a, b api.Bits) api.Bits { return bits.Lt(a, b, true) },
		"Le":        func(a, b api.Bits) api.Bits { return bits.Le(a, b, false) },
		"Le signed": func(a, b api.Bits) api.Bits { return bits.Le(a, b, true) },
		"Cond 0":    func(a, b api.Bits) api.Bits { return bits.Cond(vec("0"), a, b) },
		"Cond 1":    func(a, b api.Bits) api.Bits { return bits.Cond(vec("1"), a, b) },
		"Cond x":    func(a, b api.Bits) api.Bits { return bits.Cond(vec("x"), a, b) },
		"Resolve":   bits.Resolve,
	}
}

// mixed returns all functions of two vectors of any widths.
func mixed() map[string]binary {
	return map[string]binary{
		"LAnd": bits.LAnd, "LOr": bits.LOr, "Shl": bits.Shl, "Shr": bits.Shr, "Sar": bits.Sar,
		"Part":        func(a, b api.Bits) api.Bits { return bits.Part(a, b, false, 3) },
		"Part signed": func(a, b api.Bits) api.Bits { return bits.Part(a, b, true, 3) },
		"Put":         func(a, b api.Bits) api.Bits { return bits.Put(a, 0, b) },
		"Put above":   func(a, b api.Bits) api.Bits { return bits.Put(a, 100, b) },
		"Cond 1":      func(c, b api.Bits) api.Bits { return bits.Cond(c, vec("1"), vec("1")) },
	}
}

// isTruth reports whether a function returns a truth value.
func isTruth(name string) bool {
	return slices.Contains([]string{"RedAnd", "RedOr", "RedXor", "LNot", "LAnd", "LOr", "Eq", "Ne", "CaseEq", "CaseNe", "Lt", "Lt signed", "Le", "Le signed"}, name)
}

// Functions of vectors return no vector for one that is not valid, or for widths that are not the same.

func TestBadVectors(t *testing.T) {
	for _, bad := range badVectors() {
		for name, f := range unaries() {
			empty(t, name, f(bad))
		}
		for name, f := range binaries() {
			empty(t, name, f(bad, bad))
			for _, good := range goodVectors() {
				empty(t, name, f(bad, good))
				empty(t, name, f(good, bad))
			}
		}
		for name, f := range mixed() {
			empty(t, name, f(bad, bad))
			for _, good := range goodVectors() {
				empty(t, name, f(bad, good))
				if name != "Cond 1" {
					empty(t, name, f(good, bad))
				}
			}
		}
		for _, c := range []string{"0", "1", "x", "zz"} {
			empty(t, "Cond", bits.Cond(vec(c), bad, bits.Of(4, 1)))
			empty(t, "Cond", bits.Cond(vec(c), bits.Of(4, 1), bad))
			empty(t, "Cond", bits.Cond(vec(c), bad, bad))
		}
	}
}

func TestWidthsOfResults(t *testing.T) {
	for _, a := range goodVectors() {
		for name, f := range unaries() {
			if got := f(a); bits.Check(got) != api.OK || isTruth(name) && got.W != 1 {
				t.Errorf("%s %+v: %+v", name, a, got)
			}
		}
		for _, b := range goodVectors() {
			for name, f := range binaries() {
				switch got := f(a, b); {
				case a.W != b.W:
					empty(t, name, got)
				case bits.Check(got) != api.OK || isTruth(name) && got.W != 1 || !isTruth(name) && got.W != a.W:
					t.Errorf("%s %+v %+v: %+v", name, a, b, got)
				}
			}
			for name, f := range mixed() {
				if got := f(a, b); bits.Check(got) != api.OK {
					t.Errorf("%s %+v %+v: %+v", name, a, b, got)
				}
			}
		}
	}
}

// P1.14

func TestKnownOperandsGiveKnownResults(t *testing.T) {
	check := func(name string, got api.Bits) {
		if !bits.Known(got) {
			t.Errorf("%s: %s", name, show(got))
		}
	}
	for _, p := range upTo(3, "01") {
		a := vec(p)
		for name, f := range unaries() {
			check(name, f(a))
		}
		for _, q := range upTo(3, "01") {
			b := vec(q)
			for _, f := range []binary{bits.LAnd, bits.LOr, bits.Shl, bits.Shr, bits.Sar} {
				check("mixed", f(a, b))
			}
			check("Put", bits.Put(a, 1, b))
			check("Cat", bits.Cat([]api.Bits{a, b}))
			two := binaries()
			delete(two, "Cond x")
			delete(two, "Resolve") // of 0 and 1 it makes x (P1.9)
			for name, f := range two {
				dividing := strings.HasPrefix(name, "Div") || strings.HasPrefix(name, "Mod")
				if a.W == b.W && (b.V != 0 || !dividing) {
					check(name, f(a, b))
				}
			}
		}
	}
}

// fillings returns the texts in which every x and z is replaced by 0 or 1.
func fillings(s string) []string {
	list := []string{""}
	for _, c := range s {
		choice := string(c)
		if c == 'x' || c == 'z' {
			choice = "01"
		}
		var longer []string
		for _, p := range list {
			for _, d := range choice {
				longer = append(longer, p+string(d))
			}
		}
		list = longer
	}
	return list
}

// keeps checks that bits known in got are the same in all vectors of later.
func keeps(t *testing.T, what string, got, later api.Bits) {
	t.Helper()
	a, b := show(got), show(later)
	if len(a) != len(b) {
		t.Fatal(what, a, b)
	}
	for i := range a {
		if isKnown(a[i]) && a[i] != b[i] {
			t.Error(what, a, b)
		}
	}
}

func TestKnownBitsStay(t *testing.T) {
	one := unaries()
	for _, s := range upTo(3, "01xz") {
		for _, p := range fillings(s) {
			for name, f := range one {
				keeps(t, name+" "+s, f(vec(s)), f(vec(p)))
			}
		}
	}
	two := binaries()
	delete(two, "CaseEq")
	delete(two, "CaseNe")
	delete(two, "Resolve")
	for _, name := range []string{"LAnd", "LOr", "Shl", "Shr", "Sar"} {
		two[name] = mixed()[name]
	}
	for w := 1; w <= 2; w++ {
		for _, s := range texts(w, "01xz") {
			for _, r := range texts(w, "01xz") {
				for _, p := range fillings(s) {
					for _, q := range fillings(r) {
						for name, f := range two {
							keeps(t, name+" "+s+" "+r, f(vec(s), vec(r)), f(vec(p), vec(q)))
						}
						for _, c := range []string{"0", "1"} {
							keeps(t, "Cond "+s+" "+r, bits.Cond(vec("z"), vec(s), vec(r)), bits.Cond(vec(c), vec(p), vec(q)))
						}
					}
				}
			}
		}
	}
}

// Z1

func TestNoPanic(t *testing.T) {
	vectors := append(badVectors(), goodVectors()...)
	numbers := []int{math.MinInt, math.MinInt + 1, -65, -64, -1, 0, 1, 2, 63, 64, 65, math.MaxInt - 1, math.MaxInt}
	for _, a := range vectors {
		for _, n := range numbers {
			bits.Bit(a, n)
			bits.Rep(a, n)
			bits.Resize(a, n, true)
			bits.Resize(a, n, false)
			bits.Of(n, a.V)
			bits.All(n, byte(a.V))
			for _, m := range numbers {
				bits.Slice(a, n, m)
			}
			for _, b := range vectors {
				bits.Put(a, n, b)
				bits.Part(a, b, true, n)
				bits.Part(a, b, false, n)
				bits.Fits(a, b, n)
			}
		}
		for _, b := range vectors {
			for _, c := range vectors {
				bits.Cond(a, b, c)
				bits.Cat([]api.Bits{a, b, c})
			}
			for _, f := range binaries() {
				f(a, b)
			}
			for _, f := range mixed() {
				f(a, b)
			}
		}
	}
}

// Z2

func TestArgumentsStay(t *testing.T) {
	all := []api.Bits{vec("01"), vec("xz1"), vec("1111"), vec("zz")}
	before := slices.Clone(all)
	part := all[1:2]
	want := "xz1"
	for range 2 {
		same(t, "Cat", bits.Cat(part), want)
		same(t, "Cat", bits.Cat(all), "01xz11111zz")
		if !slices.Equal(all, before) || len(part) != 1 {
			t.Fatal(all)
		}
	}
	part[0] = vec("0")
	same(t, "Cat", bits.Cat(part), "0")
	same(t, "Cat", bits.Cat(all), "0101111zz")
}

// Z4

func TestEmptyAndNil(t *testing.T) {
	if bits.Cat(nil) != bits.Cat([]api.Bits{}) || bits.Cat(nil) != bits.Cat(make([]api.Bits, 0, 4)) {
		t.Error("Cat")
	}
}
