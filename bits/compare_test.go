package bits_test

import (
	"math"
	"strings"
	"testing"

	"maskwright/api"
	"maskwright/bits"
)

// equalText is what Eq must return.
func equalText(a, b string) string {
	unknown := false
	for i := range a {
		p, q := isKnown(a[i]), isKnown(b[i])
		if p && q && a[i] != b[i] {
			return "0"
		}
		unknown = unknown || !p || !q
	}
	if unknown {
		return "x"
	}
	return "1"
}

func isKnown(state byte) bool {
	return state == '0' || state == '1'
}

func boolText(b bool) string {
	if b {
		return "1"
	}
	return "0"
}

// fitsText is what Fits must return.
func fitsText(a, b string, kind int) bool {
	for i := range a {
		wild := kind == api.WildZ && (a[i] == 'z' || b[i] == 'z') || kind == api.WildX && (!isKnown(a[i]) || !isKnown(b[i]))
		if a[i] != b[i] && !wild {
			return false
		}
	}
	return true
}

// comparePair checks P1.7 and P1.8 for two vectors.
func comparePair(t *testing.T, a, b string) {
	t.Helper()
	p, q := vec(a), vec(b)
	same(t, "Eq "+a+" "+b, bits.Eq(p, q), equalText(a, b))
	same(t, "Ne "+a+" "+b, bits.Ne(p, q), notText(equalText(a, b)))
	same(t, "CaseEq "+a+" "+b, bits.CaseEq(p, q), boolText(a == b))
	same(t, "CaseNe "+a+" "+b, bits.CaseNe(p, q), boolText(a != b))
	for _, kind := range []int{api.Exact, api.WildZ, api.WildX} {
		if got := bits.Fits(p, q, kind); got != fitsText(a, b, kind) {
			t.Error("Fits", a, b, kind, got)
		}
	}
	for _, signed := range []bool{false, true} {
		less, most := "x", "x"
		if p.X|q.X == 0 {
			order := bigOf(p, signed).Cmp(bigOf(q, signed))
			less, most = boolText(order < 0), boolText(order <= 0)
		}
		same(t, "Lt "+a+" "+b, bits.Lt(p, q, signed), less)
		same(t, "Le "+a+" "+b, bits.Le(p, q, signed), most)
	}
}

// P1.7, P1.8

func TestComparisons(t *testing.T) {
	for w := 1; w <= 3; w++ {
		for _, a := range texts(w, "01xz") {
			for _, b := range texts(w, "01xz") {
				comparePair(t, a, b)
			}
		}
	}
	var r source
	for w := 4; w <= 64; w++ {
		list := []string{show(r.known(w)), show(r.known(w)), show(r.vector(w)), show(r.vector(w))}
		for _, ends := range texts(2, "01xz") {
			list = append(list, ends[:1]+strings.Repeat("0", w-2)+ends[1:], ends[:1]+strings.Repeat("1", w-2)+ends[1:])
		}
		for _, a := range list {
			for _, b := range list {
				comparePair(t, a, b)
			}
		}
	}
}

func TestComparisonsOfOtherWidths(t *testing.T) {
	for _, a := range []string{"0", "1", "x", "11", "zz"} {
		for _, b := range []string{"000", "011", "xxx", "0zz1"} {
			p, q := vec(a), vec(b)
			for what, got := range map[string]api.Bits{
				"Eq": bits.Eq(p, q), "Ne": bits.Ne(p, q), "CaseEq": bits.CaseEq(p, q), "CaseNe": bits.CaseNe(p, q),
				"Lt": bits.Lt(p, q, false), "Lt signed": bits.Lt(p, q, true), "Le": bits.Le(p, q, false), "Le signed": bits.Le(p, q, true),
			} {
				empty(t, what, got)
			}
			for kind := -1; kind <= 3; kind++ {
				if bits.Fits(p, q, kind) || bits.Fits(q, p, kind) {
					t.Error("Fits", a, b, kind)
				}
			}
		}
	}
}

// P1.8

func TestFitsWithoutKindOrVector(t *testing.T) {
	for _, kind := range []int{-1, 3, 4, math.MinInt, math.MaxInt} {
		for _, b := range goodVectors() {
			if bits.Fits(b, b, kind) {
				t.Errorf("%+v %d", b, kind)
			}
		}
	}
	for _, bad := range badVectors() {
		for _, kind := range []int{api.Exact, api.WildZ, api.WildX} {
			if bits.Fits(bad, bad, kind) || bits.Fits(bad, bits.Of(4, 0), kind) || bits.Fits(bits.Of(4, 0), bad, kind) {
				t.Errorf("%+v %d", bad, kind)
			}
		}
	}
}
