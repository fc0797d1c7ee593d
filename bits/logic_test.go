package bits_test

import (
	"strings"
	"testing"

	"maskwright/api"
	"maskwright/bits"
)

// The tables have a row for each state of a and a column for each state of b, both in the order 0, 1, x, z.
var (
	andTable     = [4]string{"0000", "01xx", "0xxx", "0xxx"}
	orTable      = [4]string{"01xx", "1111", "x1xx", "x1xx"}
	xorTable     = [4]string{"01xx", "10xx", "xxxx", "xxxx"}
	agreeTable   = [4]string{"0xxx", "x1xx", "xxxx", "xxxx"}
	resolveTable = [4]string{"0xx0", "x1x1", "xxxx", "01xz"}
)

// look returns the state that a table has for two states.
func look(table [4]string, a, b byte) byte {
	const order = "01xz"
	return table[strings.IndexByte(order, a)][strings.IndexByte(order, b)]
}

// lookAll joins two texts of states bit by bit.
func lookAll(table [4]string, a, b string) string {
	s := make([]byte, len(a))
	for i := range s {
		s[i] = look(table, a[i], b[i])
	}
	return string(s)
}

// fold joins the states of a text by a table; a single z is an x.
func fold(table [4]string, s string) string {
	r := strings.ReplaceAll(s[:1], "z", "x")[0]
	for i := 1; i < len(s); i++ {
		r = look(table, r, s[i])
	}
	return string(r)
}

// notText inverts states.
func notText(s string) string {
	return strings.NewReplacer("0", "1", "1", "0", "z", "x").Replace(s)
}

type binary = func(a, b api.Bits) api.Bits

// eachPair checks f against a table for all pairs of up to three bits and for wide ones.
func eachPair(t *testing.T, what string, f binary, table [4]string) {
	t.Helper()
	for w := 1; w <= 3; w++ {
		for _, a := range texts(w, "01xz") {
			for _, b := range texts(w, "01xz") {
				same(t, what+" "+a+" "+b, f(vec(a), vec(b)), lookAll(table, a, b))
			}
		}
	}
	var s source
	for w := 4; w <= 64; w++ {
		for range 20 {
			a, b := s.vector(w), s.vector(w)
			same(t, what, f(a, b), lookAll(table, show(a), show(b)))
		}
	}
	empty(t, what, f(vec("1"), vec("11")))
	empty(t, what, f(vec("000"), vec("00")))
}

// P1.3

func TestBitByBit(t *testing.T) {
	eachPair(t, "And", bits.And, andTable)
	eachPair(t, "Or", bits.Or, orTable)
	eachPair(t, "Xor", bits.Xor, xorTable)
}

func TestNot(t *testing.T) {
	for _, s := range upTo(4, "01xz") {
		same(t, "Not "+s, bits.Not(vec(s)), notText(s))
	}
	var r source
	for w := 5; w <= 64; w++ {
		b := r.vector(w)
		same(t, "Not", bits.Not(b), notText(show(b)))
	}
}

// P1.4

func TestReductions(t *testing.T) {
	list := upTo(4, "01xz")
	var r source
	for w := 5; w <= 64; w++ {
		list = append(list, show(r.vector(w)), show(r.known(w)))
		for _, state := range "01xz" {
			list = append(list, strings.Repeat(string(state), w), string(state)+strings.Repeat("0", w-1), string(state)+strings.Repeat("1", w-1))
		}
	}
	for _, s := range list {
		same(t, "RedAnd "+s, bits.RedAnd(vec(s)), fold(andTable, s))
		same(t, "RedOr "+s, bits.RedOr(vec(s)), fold(orTable, s))
		same(t, "RedXor "+s, bits.RedXor(vec(s)), fold(xorTable, s))
	}
}

// truthText is the state of a condition.
func truthText(s string) string {
	return map[int]string{0: "0", 1: "1", -1: "x"}[condition(s)]
}

func TestConditions(t *testing.T) {
	list := append(upTo(3, "01xz"), strings.Repeat("z", 64), strings.Repeat("0", 64), "1"+strings.Repeat("x", 63))
	for _, a := range list {
		p := truthText(a)
		same(t, "LNot "+a, bits.LNot(vec(a)), notText(p))
		for _, b := range list {
			q := truthText(b)
			same(t, "LAnd "+a+" "+b, bits.LAnd(vec(a), vec(b)), lookAll(andTable, p, q))
			same(t, "LOr "+a+" "+b, bits.LOr(vec(a), vec(b)), lookAll(orTable, p, q))
		}
	}
}

// P1.9

func TestCond(t *testing.T) {
	for w := 1; w <= 2; w++ {
		for _, a := range texts(w, "01xz") {
			for _, b := range texts(w, "01xz") {
				for _, c := range upTo(3, "01xz") {
					want := map[int]string{1: a, 0: b, -1: lookAll(agreeTable, a, b)}[condition(c)]
					same(t, "Cond "+c+" "+a+" "+b, bits.Cond(vec(c), vec(a), vec(b)), want)
				}
			}
		}
	}
	for _, c := range []string{"0", "1", "x", "z0"} {
		empty(t, "Cond", bits.Cond(vec(c), vec("1"), vec("11")))
		empty(t, "Cond", bits.Cond(vec(c), vec("101"), vec("11")))
	}
	eachPair(t, "Cond", func(a, b api.Bits) api.Bits { return bits.Cond(vec("0z"), a, b) }, agreeTable)
}

func TestResolve(t *testing.T) {
	eachPair(t, "Resolve", bits.Resolve, resolveTable)
}
