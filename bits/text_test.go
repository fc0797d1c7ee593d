package bits_test

import (
	"math"
	"math/big"
	"strconv"
	"strings"
	"testing"

	"maskwright/api"
	"maskwright/bits"
)

// reads checks that a text is read as the vector with these states.
func reads(t *testing.T, s, want string) {
	t.Helper()
	b, e := bits.Read(s)
	if e != api.OK {
		t.Errorf("%s: error %d", s, e)
		return
	}
	same(t, s, b, want)
}

// refuses checks that a text is refused, without a vector.
func refuses(t *testing.T, s string, want api.Errno) {
	t.Helper()
	b, e := bits.Read(s)
	if e != want || b != none {
		t.Errorf("%.40q: %+v, error %d, want %d", s, b, e, want)
	}
}

// P1.13

func TestText(t *testing.T) {
	for _, s := range append(upTo(4, "01xz"), strings.Repeat("01xz", 16), strings.Repeat("zx1", 21), "1"+strings.Repeat("0", 9)) {
		if got := bits.Text(vec(s)); got != strconv.Itoa(len(s))+"'b"+s {
			t.Error(s, got)
		}
	}
	for _, b := range badVectors() {
		if got := bits.Text(b); got != "" {
			t.Errorf("%+v: %s", b, got)
		}
	}
}

func TestReadOfBases(t *testing.T) {
	for s, want := range map[string]string{
		"4'b10xz": "10xz", "1'b0": "0", "1'b1": "1", "1'bx": "x", "1'bz": "z",
		"12'o0123": "000001010011", "12'o4567": "100101110111", "6'ox1": "xxx001", "6'o1z": "001zzz",
		"32'h01234567": "00000001001000110100010101100111", "32'h89abcdef": "10001001101010111100110111101111",
		"12'hf0z": "11110000zzzz", "6'hzf": "zz1111", "8'hx5": "xxxx0101",
		"8'd200": "11001000", "4'd9": "1001", "4'd15": "1111", "7'd99": "1100011", "3'dx": "xxx", "3'dz": "zzz", "1'd1": "1", "1'd0": "0",
		"8'sd200": "11001000", "4'sb10xz": "10xz", "6'so17": "001111", "8'sh8f": "10001111", "3'sdx": "xxx", "4'sb1": "0001",
	} {
		reads(t, s, want)
	}
	if b, e := bits.Read("8'sd200"); e != api.OK || b != (api.Bits{W: 8, V: 200}) {
		t.Error(b, e)
	}
}

func TestReadOfFewDigits(t *testing.T) {
	for s, want := range map[string]string{
		"8'b1": "00000001", "8'bx": "xxxxxxxx", "8'bz": "zzzzzzzz", "8'bx1": "xxxxxxx1", "8'bz0x": "zzzzzz0x", "8'b0x": "0000000x", "8'b1z": "0000001z",
		"8'o7": "00000111", "8'ox7": "xxxxx111", "8'oz0": "zzzzz000", "8'o0z": "00000zzz",
		"9'hx": "xxxxxxxxx", "9'hz1": "zzzzz0001", "9'h1x": "00001xxxx", "9'h0z": "00000zzzz",
		"9'd1": "000000001", "6'd0": "000000",
	} {
		reads(t, s, want)
	}
	reads(t, "64'bz1", strings.Repeat("z", 63)+"1")
	reads(t, "64'hxf", strings.Repeat("x", 60)+"1111")
	reads(t, "64'h1", strings.Repeat("0", 63)+"1")
	reads(t, "64'dx", strings.Repeat("x", 64))
}

func TestReadOfManyDigits(t *testing.T) {
	for s, want := range map[string]string{
		"4'b0001111": "1111", "4'b00x": "000x", "1'b00000": "0", "1'b00001": "1", "4'b00xzz0": "xzz0",
		"5'ox7": "xx111", "4'ox7": "x111", "4'oz7": "z111", "2'o3": "11", "2'o003": "11", "2'ox": "xx", "1'ox": "x", "1'oz": "z", "4'o00z1": "z001",
		"6'hz3": "zz0011", "5'hz3": "z0011", "4'h0f": "1111", "4'h000f": "1111", "3'h7": "111", "3'h07": "111", "2'hx": "xx", "1'hz": "z", "1'h1": "1", "5'h1f": "11111", "5'h0x3": "x0011",
		"4'd15": "1111", "4'd00015": "1111", "1'd0001": "1", "2'd3": "11",
	} {
		reads(t, s, want)
	}
	for _, s := range []string{
		"4'b10000", "4'b1000000", "4'bx0000", "4'bz0000", "1'b10", "1'bx0", "1'bz1", "4'b0x0000", "3'bx111",
		"2'o4", "2'o7", "1'o2", "5'o40", "3'o10", "3'ox0", "3'oz7", "3'o0x0", "4'o70", "4'o2x", "2'o0x0", "2'o103",
		"4'h1f", "4'h10", "4'hx0", "4'hz0", "4'h0x0", "3'h8", "3'hf", "1'h2", "5'h20", "5'hx00", "5'h2x", "6'h4f", "6'hzzf", "5'h1f0",
		"4'd16", "1'd2", "3'd8", "3'd0008", "4'd100", "8'd256", "8'd1000",
		"4'sd16", "4'sb10000", "4'sh1f", "2'so4",
	} {
		refuses(t, s, api.ErrLarge)
	}
}

func TestReadOfWideVectors(t *testing.T) {
	for s, want := range map[string]uint64{
		"64'hffffffffffffffff": math.MaxUint64, "64'h8000000000000001": 1<<63 + 1, "64'h00123456789abcdef0": 0x123456789abcdef0,
		"64'o1777777777777777777777": math.MaxUint64, "64'o0001000000000000000000000": 1 << 63,
		"64'd18446744073709551615": math.MaxUint64, "64'd000018446744073709551615": math.MaxUint64, "64'd9223372036854775808": 1 << 63,
	} {
		if b, e := bits.Read(s); e != api.OK || b != (api.Bits{W: 64, V: want}) {
			t.Error(s, b, e)
		}
	}
	reads(t, "64'ox000000000000000000000", "x"+strings.Repeat("0", 63))
	reads(t, "63'd9223372036854775807", strings.Repeat("1", 63))
	for _, s := range []string{
		"64'h1ffffffffffffffff", "64'hx0000000000000000", "64'o2000000000000000000000", "64'ox0000000000000000000000", "64'b1" + strings.Repeat("0", 64),
		"64'd18446744073709551616", "64'd18446744073709551620", "64'd99999999999999999999", "64'd1" + strings.Repeat("0", 40), "63'd9223372036854775808",
		"4'd18446744073709551616", "4'd18446744073709551617",
	} {
		refuses(t, s, api.ErrLarge)
	}
	long := strings.Repeat("0", 5000)
	reads(t, "4'b"+long+"1", "0001")
	reads(t, "4'h"+long+"a", "1010")
	reads(t, "4'd"+long+"10", "1010")
	refuses(t, "4'h1"+long, api.ErrLarge)
	refuses(t, "4'hx"+long, api.ErrLarge)
	refuses(t, "4'd1"+long, api.ErrLarge)
}

func TestReadOfEveryDecimal(t *testing.T) {
	for w := 1; w <= 64; w++ {
		limit := new(big.Int).Lsh(big.NewInt(1), uint(w))
		last := new(big.Int).Sub(limit, big.NewInt(1))
		reads(t, strconv.Itoa(w)+"'d"+last.String(), strings.Repeat("1", w))
		refuses(t, strconv.Itoa(w)+"'d"+limit.String(), api.ErrLarge)
	}
}

func TestReadSyntax(t *testing.T) {
	for _, s := range []string{
		"", "'", "4", "4'", "'b1", "b1", "4b1", "4'b", "4's", "4'sb", "4'd", "4'h", "4'o", "4'sd", "s'b1", "x'b1",
		"0'b1", "04'b1", "00'b1", "+4'b1", "-4'b1", "4 'b1", " 4'b1", "4'b1 ", "4' b1", "4'b 1", "4'b1\n", "4''b1", "4'b'1", "a'b1", "4a'b1", "4.0'b1", "1_6'b1",
		"4'1", "4'11", "4's1", "4's11", "4'ssb1", "4'bs1", "4'S1", "4'Sb1", "4'B1", "4'O1", "4'H1", "4'D1", "4'c1", "4'x1", "4'z1", "4'01", "4'bb1",
		"4'b2", "4'b12", "4'b1a", "4'b1_0", "4'b-1", "4'bX", "4'bZ", "4'b?", "4'bd", "4'o8", "4'o18", "4'oa", "4'oX", "4'hg", "4'hF", "4'hA", "4'hX", "4'h1g", "4'h 1", "4'h+1",
		"4'd1x", "4'dx1", "4'dxx", "4'dzz", "4'dxz", "4'd0x", "4'da", "4'd1f", "4'd-1", "4'd+1", "4'dX", "4'd1_0", "4'd1.0",
		"4'b\x00", "4'b\xff", "4'h\xef\xbf\xbd", "\xff4'b1", "4'b1\x80", "٤'b1", "4'b١", "4\u2019b1", "4'd١",
	} {
		refuses(t, s, api.ErrSyntax)
	}
	for c := range 256 {
		s := string([]byte{byte(c)})
		if !strings.Contains("01xz", s) {
			refuses(t, "8'b"+s+"1", api.ErrSyntax)
		}
		if !strings.Contains("01234567xz", s) {
			refuses(t, "8'o"+s+"1", api.ErrSyntax)
		}
		if !strings.Contains("0123456789abcdefxz", s) {
			refuses(t, "8'h"+s+"1", api.ErrSyntax)
		}
		if !strings.Contains("0123456789", s) {
			refuses(t, "8'd"+s+"1", api.ErrSyntax)
		}
		if !strings.Contains("bohds", s) {
			refuses(t, "8'"+s+"1", api.ErrSyntax)
		}
		if !strings.Contains("123456789", s) {
			refuses(t, s+"'b1", api.ErrSyntax)
		}
	}
}

func TestReadOrderOfErrors(t *testing.T) {
	for _, s := range []string{"65'b1", "66'd1", "100'hx", "640'b1", "641'b1", "1000'o7", "99999999999999999999999999'b0", "18446744073709551617'b0", "4294967300'b1", "65'dx", "65'sb1"} {
		refuses(t, s, api.ErrRange)
	}
	refuses(t, "65'b1"+strings.Repeat("0", 70), api.ErrRange)
	refuses(t, "65'd99999999999999999999999999", api.ErrRange)
	for _, s := range []string{"65'b2", "65'b", "065'b1", "65'd1x", "99999999999999999999999999'x0", "65'h1g"} {
		refuses(t, s, api.ErrSyntax)
	}
	for _, s := range []string{"1'b1112", "1'hffg", "4'd99x", "4'd9999999999999999999999999a", "2'bx00y"} {
		refuses(t, s, api.ErrSyntax)
	}
}

// digitModel returns the states that the digits of a base b, o or h stand for, and whether they have room in w bits.
func digitModel(w, size int, digits string) (string, bool) {
	var s string
	whole := len(digits) * size
	ok := true
	for i, c := range digits {
		bitsOfDigit := strings.Repeat(string(c), size)
		if c != 'x' && c != 'z' {
			v, _ := strconv.ParseUint(string(c), 16, 64)
			bitsOfDigit = show(api.Bits{W: size, V: v})
		}
		for k := range size {
			place := whole - 1 - i*size - k
			partly := (c == 'x' || c == 'z') && whole-(i+1)*size < w
			if place >= w && bitsOfDigit[k] != '0' && !partly {
				ok = false
			}
		}
		s += bitsOfDigit
	}
	fill := "0"
	if digits[0] == 'x' || digits[0] == 'z' {
		fill = digits[:1]
	}
	s = strings.Repeat(fill, w) + s
	return s[len(s)-w:], ok
}

func TestReadOfAllShortTexts(t *testing.T) {
	for _, base := range []struct {
		letter, alphabet string
		size, longest    int
	}{{"b", "01xz", 1, 4}, {"o", "01357xz", 3, 3}, {"h", "01258fxz", 4, 3}} {
		for _, digits := range upTo(base.longest, base.alphabet) {
			for w := 1; w <= 13; w++ {
				want, ok := digitModel(w, base.size, digits)
				text := strconv.Itoa(w) + "'" + base.letter + digits
				if ok {
					reads(t, text, want)
				} else {
					refuses(t, text, api.ErrLarge)
				}
			}
		}
	}
}

// P1.14

func TestReadGivesBackTexts(t *testing.T) {
	list := goodVectors()
	for _, s := range upTo(4, "01xz") {
		list = append(list, vec(s))
	}
	var r source
	for w := 1; w <= 64; w++ {
		list = append(list, r.vector(w), r.known(w), api.Bits{W: w, X: ones(w)}, api.Bits{W: w, V: ones(w), X: ones(w)})
	}
	for _, b := range list {
		if got, e := bits.Read(bits.Text(b)); got != b || e != api.OK {
			t.Errorf("%+v: %+v %d", b, got, e)
		}
	}
}
