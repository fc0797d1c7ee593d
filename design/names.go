package design

import (
	"strconv"
	"strings"

	"maskwright/api"
	"maskwright/bits"
)

// Part reports whether s is a part of a name.
func Part(s string) bool {
	if len(s) < 1 || len(s) > api.MaxName {
		return false
	}
	for _, c := range []byte(s) {
		if c < '!' || c > '~' || strings.IndexByte(`.[]"\`, c) >= 0 {
			return false
		}
	}
	return true
}

// Name reports whether s is the name of a signal.
func Name(s string) bool {
	if len(s) > api.MaxPath {
		return false
	}
	for _, part := range strings.Split(s, ".") {
		if !Part(part) {
			return false
		}
	}
	return true
}

// Bits returns the names of all bits of a signal, element by element, the lowest bit first; nothing if W or Elems is out of range.
func Bits(s api.Signal) []string {
	if !hasBits(s) {
		return nil
	}
	var names []string
	for i := range s.Elems {
		for k := range s.W {
			names = append(names, bitName(s, i, k))
		}
	}
	return names
}

// hasBits reports whether a signal has numbers of bits and elements that are permitted.
func hasBits(s api.Signal) bool {
	return s.W >= 1 && s.W <= api.MaxWidth && s.Elems >= 1 && s.Elems <= api.MaxElems
}

// bitName returns the name of a bit of an element of a signal.
func bitName(s api.Signal, elem, bit int) string {
	return s.Name + index(elem, s.Elems) + index(bit, s.W)
}

// index returns the index of one of n elements or bits; nothing if it is the only one.
func index(i, n int) string {
	if n == 1 {
		return ""
	}
	return "[" + strconv.Itoa(i) + "]"
}

// newName checks a name that must be another one than those before it.
func newName(s string, before map[string]bool) api.Errno {
	switch {
	case !Name(s):
		return api.ErrName
	case before[s]:
		return api.ErrTwice
	}
	before[s] = true
	return api.OK
}

// checkSignal validates a signal, of which the name must be another one than those before it.
func checkSignal(s api.Signal, before map[string]bool) api.Errno {
	if e := newName(s.Name, before); e != api.OK {
		return e
	}
	switch {
	case s.Port < api.Inner || s.Port > api.Out || s.Kind < api.Wire || s.Kind > api.Var || !hasBits(s):
		return api.ErrRange
	case s.Port != api.Inner && s.Elems != 1, s.Port == api.In && s.Kind != api.Wire:
		return api.ErrForm
	case len(s.Init) > 0 && (s.Kind == api.Wire || len(s.Init) != s.Elems):
		return api.ErrForm
	}
	for _, b := range s.Init {
		if bits.Check(b) != api.OK || b.W != s.W {
			return api.ErrForm
		}
	}
	if len(bitName(s, s.Elems-1, s.W-1)) > api.MaxBit {
		return api.ErrLarge
	}
	return api.OK
}

// checkVars validates the variables of a function.
func checkVars(f api.Func) api.Errno {
	names := map[string]bool{}
	for i, v := range f.Vars {
		if e := checkSignal(v, names); e != api.OK {
			return e
		}
		if v.Port != api.Inner || v.Kind != api.Var || len(v.Init) > 0 || i <= f.Args && v.Elems != 1 {
			return api.ErrForm
		}
	}
	return api.OK
}
