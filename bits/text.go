package bits

import (
	"strconv"
	"strings"

	"maskwright/api"
)

// literal is a text for a vector, taken apart.
type literal struct {
	w      int // any number above api.MaxWidth stands for all of them
	base   byte
	digits string
}

// Text returns the text of a vector, with a digit for each bit.
func Text(b api.Bits) string {
	if !valid(b) {
		return ""
	}
	text := append(strconv.AppendInt(nil, int64(b.W), 10), "'b"...)
	for i := b.W - 1; i >= 0; i-- {
		text = append(text, Bit(b, i))
	}
	return string(text)
}

// Read reads a number with a width.
func Read(s string) (api.Bits, api.Errno) {
	l, ok := takeApart(s)
	if !ok {
		return api.Bits{}, api.ErrSyntax
	}
	if l.w > api.MaxWidth {
		return api.Bits{}, api.ErrRange
	}
	if l.base == 'd' {
		return readDecimal(l.w, l.digits)
	}
	return readDigits(l.w, digitWidth(l.base), l.digits)
}

// takeApart reports whether a text has the form of a vector, and returns its parts.
func takeApart(s string) (literal, bool) {
	width, rest, found := strings.Cut(s, "'")
	rest = strings.TrimPrefix(rest, "s")
	if !found || width == "" || width[0] == '0' || !every(width, isDecimal) || len(rest) < 2 {
		return literal{}, false
	}
	l := literal{w: readWidth(width), base: rest[0], digits: rest[1:]}
	if l.base == 'd' {
		return l, l.digits == "x" || l.digits == "z" || every(l.digits, isDecimal)
	}
	size := digitWidth(l.base)
	return l, size > 0 && every(l.digits, func(c byte) bool {
		return c == 'x' || c == 'z' || digitValue(c) < 1<<size
	})
}

// readWidth returns the number of a width, or some number above api.MaxWidth for every such width.
func readWidth(digits string) int {
	w := 0
	for i := 0; i < len(digits) && w <= api.MaxWidth; i++ {
		w = w*10 + digitValue(digits[i])
	}
	return w
}

// readDecimal reads decimal digits, or a single x or z.
func readDecimal(w int, digits string) (api.Bits, api.Errno) {
	if digits == "x" || digits == "z" {
		return All(w, digits[0]), api.OK
	}
	v, err := strconv.ParseUint(digits, 10, 64)
	if err != nil || v&^mask(w) != 0 {
		return api.Bits{}, api.ErrLarge
	}
	return Of(w, v), api.OK
}

// readDigits reads digits of size bits each.
func readDigits(w, size int, digits string) (api.Bits, api.Errno) {
	b := Of(w, 0)
	if first := digits[0]; first == 'x' || first == 'z' {
		b = All(w, first)
	}
	for i := range len(digits) {
		d := digitBits(size, digits[len(digits)-1-i])
		if exceeds(d, w-i*size) {
			return api.Bits{}, api.ErrLarge
		}
		b = Put(b, i*size, d)
	}
	return b, api.OK
}

// exceeds reports whether a digit has bits that must not be left out but do not fit in this room.
func exceeds(d api.Bits, room int) bool {
	if room <= 0 {
		return d.V|d.X != 0
	}
	return d.X == 0 && d.V>>room != 0
}

// digitBits returns the bits of a digit.
func digitBits(size int, c byte) api.Bits {
	if c == 'x' || c == 'z' {
		return All(size, c)
	}
	return Of(size, uint64(digitValue(c)))
}

// digitWidth returns the number of bits of a digit; 0 if there is no such base, or if its digits have none of their own.
func digitWidth(base byte) int {
	switch base {
	case 'b':
		return 1
	case 'o':
		return 3
	case 'h':
		return 4
	}
	return 0
}

// every reports whether ok holds for all bytes of a text.
func every(s string, ok func(c byte) bool) bool {
	for i := range len(s) {
		if !ok(s[i]) {
			return false
		}
	}
	return true
}

func isDecimal(c byte) bool {
	return digitValue(c) < 10
}

// digitValue returns the value of a digit; for any other byte, more than any digit has.
func digitValue(c byte) int {
	switch {
	case c >= '0' && c <= '9':
		return int(c - '0')
	case c >= 'a' && c <= 'f':
		return int(c-'a') + 10
	}
	return 16
}
