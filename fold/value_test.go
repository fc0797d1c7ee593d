package fold_test

import (
	"strings"
	"testing"

	"maskwright/api"
	"maskwright/fold"
	S "maskwright/syntax"
	"maskwright/width"
)

// pad returns states of 32 bits, of which only the lowest ones are not 0.
func pad(s string) string {
	return strings.Repeat("0", 32-len(s)) + s
}

// P11.1: values, with an s behind them if they have a sign.
func TestValues(t *testing.T) {
	for s, want := range map[string]string{
		"3 + 4'd14": pad("10001"), "cat(3'd5 + 3'd4)": "001", "3'd5 + 3'd4": "001", "3'd5 + 4'd4": "1001", "(3'd5 + 3'd4) + 4'd0": "1001",
		"5": pad("101") + "s", "4'd5": "0101", "4'sd5": "0101s", "4'b1xz0": "1xz0", "-1": strings.Repeat("1", 32) + "s", "+4'd3": "0011", "-4'd3": "1101", "~4'd5": "1010", "!4'd5": "0", "&2'd3": "1", "|2'd0": "0", "^3'd7": "1",
		"4'd5 * 4'd5": "1001", "-4'sd7 / 4'sd2": "1101s", "-4'd7 / 4'd2": "0100", "-4'sd7 % 4'sd2": "1111s", "4'd7 / 0": strings.Repeat("x", 32), "4'd7 % 4'd0": "xxxx", "4'd3 - 4'd5": "1110", "4'd6 & 4'd3": "0010", "4'd6 ^ 4'd3": "0101", "4'd6 | 4'd3": "0111",
		"4'd9 << 1": "0010", "4'd9 >> 1": "0100", "4'd9 >>> 1": "0100", "4'sd9 >>> 1": "1100s", "4'sd9 >> 1": "0100s", "4'd9 << 4": "0000", "4'd9 << 1'bx": "xxxx",
		"signed(2'd3) < 0": "1", "2'd3 < 0": "0", "2'd3 <= 3": "1", "2'd3 > 2": "1", "2'd3 >= 4": "0", "2'd3 == 8'd3": "1", "2'sd3 == 8'shff": "1", "2'd3 != 3": "0", "2'bx1 === 2'bx1": "1", "2'bx1 == 2'bx1": "x", "2'bx1 !== 2'bx1": "0", "2'bx1 == 2'bx0": "0",
		"2'd2 && 1'bx": "x", "2'd0 && 1'bx": "0", "2'd2 || 1'bx": "1", "1 ? 4'd3 : 8'd200": "00000011", "0 ? 4'd3 : 8'd200": "11001000", "1'bx ? 4'd3 : 4'd5": "0xx1", "1 ? 4'sd15 : 8'sd0": "11111111s",
		"cat(2'd1, 3'd1)": "01001", "rep(2, 2'b10)": "1010", "rep(3, cat(1'd1, 1'bz))": "1z1z1z", "signed(2'd3)": "11s", "unsigned(-1)": strings.Repeat("1", 32), "size(2, 7)": "11s", "size(6, 4'sd9)": "111001s", "size(6, 4'd9)": "001001",
		"width(cat(2'd1, 3'd1))": pad("101") + "s", "width(a)": pad("100") + "s", "width(now)": pad("1000000") + "s", "log(9)": pad("100") + "s", "log(8)": pad("11") + "s", "log(1)": pad("") + "s", "log(0)": pad("") + "s", "log(64'hffffffffffffffff)": pad("1000000") + "s",
		"K": "11001000", "T": "111011s", "P": "10110", "U": "1x0z", "g.k": "101", "K[3]": "1", "T[2]": "1", "T[4]": "0", "T[7:4]": "1110", "K[3 +: 4]": "1001", "P.hi": "101", "P.lo": "10s", "P.hi[1]": "1", "P.hi[3:2]": "10", "U[2]": "x", "U[1:0]": "0z",
		"K + 8'd100": "00101100", "K + 9'd100": "100101100", "T < 0": "1", "T + 6'd0": "111011", "T + 7'sd0": "1111011s", "U === 4'b1x0z": "1", "cat(U, g.k)": "1x0z101", "g.k + P.hi": "010", "K[g.k]": "0", "K[g.k - 3'd2]": "1", "log(K)": pad("1000") + "s",
		"f(4'd9)": "01101001s", "f(25)": "01101001s", "f(U)": "0x1x1x0zs", "f(g.k) + 0": strings.Repeat("1", 24) + "10100101s", "spin(1000)": "1", "spin(600) + spin(400)": "0",
	} {
		b, signed, e := fold.Value(node(t, s), env())
		got := states(b)
		if signed {
			got += "s"
		}
		if got != want || e != api.OK {
			t.Errorf("%s: %s, error %d, not %s", s, got, e, want)
		}
	}
}

// P11.1: the errors of width, without a value and without a sign.
func TestFaults(t *testing.T) {
	for s, want := range map[string]api.Errno{
		"zz": api.ErrNone, "P.no": api.ErrNone, "zz(1)": api.ErrNone, "g.no": api.ErrNone, "m": api.ErrType, "f": api.ErrType, "g": api.ErrType, "K(1)": api.ErrType, "m[2:1]": api.ErrType, "f()": api.ErrForm, "f(1, 2)": api.ErrForm,
		"a": api.ErrConst, "now": api.ErrConst, "m[2]": api.ErrConst, "a & 0": api.ErrConst, "1 ? 2 : a": api.ErrConst, "K[a]": api.ErrConst, "f(a)": api.ErrConst, "rep(a, 1'd1)": api.ErrConst, "log(now)": api.ErrConst, "log(1'bx)": api.ErrConst, "K[U]": api.ErrConst, "size(1'bz, K)": api.ErrConst,
		"K[8]": api.ErrRange, "K[-1]": api.ErrRange, "T[1]": api.ErrRange, "T[8]": api.ErrRange, "K[7 +: 2]": api.ErrRange, "K[0 +: 9]": api.ErrRange, "K[2:3]": api.ErrRange, "P.hi[0]": api.ErrRange, "m[5]": api.ErrRange, "rep(65, 1'b1)": api.ErrRange, "rep(0, 1'b1)": api.ErrRange, "size(65, 1)": api.ErrRange,
		"rep(64, 2'b10)": api.ErrLarge, "cat(1, 2, 1'd1)": api.ErrLarge, "spin(1001)": api.ErrLarge, "spin(600) + spin(401)": api.ErrLarge,
		"zz + K[8]": api.ErrNone, "K[8] + zz": api.ErrRange, "a + zz": api.ErrNone, "rep(65, zz)": api.ErrNone, "K + (a + K[9])": api.ErrRange,
	} {
		refused(t, s, node(t, s), want)
	}
}

// nested returns a number within as many nodes of a kind that there are so many levels.
func nested(kind, levels int) S.Node {
	n := num(vec("0001"), false)
	for range levels - 1 {
		n = S.Node{Kind: kind, Kids: []S.Node{n}}
	}
	return n
}

// P11.1: trees that are not valid.
func TestInvalidTrees(t *testing.T) {
	one := num(vec("1"), false)
	name := func(s string) S.Node { return S.Node{Kind: S.Name, Name: s} }
	of := func(kind int, kids ...S.Node) S.Node { return S.Node{Kind: kind, Kids: kids} }
	for what, x := range map[string]struct {
		n    S.Node
		want api.Errno
	}{
		"none":                     {S.Node{}, api.ErrType},
		"no kind":                  {S.Node{Kind: -1}, api.ErrRange},
		"no kind, above":           {of(S.Neg, S.Node{Kind: S.Now + 1}), api.ErrRange},
		"line":                     {S.Node{Kind: S.Num, Num: vec("1"), Line: -1}, api.ErrRange},
		"column":                   {S.Node{Kind: S.Num, Num: vec("1"), Col: -1}, api.ErrRange},
		"statement":                {S.Node{Kind: S.Nop}, api.ErrType},
		"kid none":                 {of(S.Add, one, S.Node{}), api.ErrForm},
		"kid missing":              {of(S.Add, one), api.ErrForm},
		"kid too many":             {of(S.Neg, one, one), api.ErrForm},
		"kids of a number":         {S.Node{Kind: S.Num, Num: vec("1"), Kids: []S.Node{one}}, api.ErrForm},
		"name missing":             {name(""), api.ErrForm},
		"bad name":                 {name("g.k"), api.ErrName},
		"name of a number":         {S.Node{Kind: S.Num, Num: vec("1"), Name: "K"}, api.ErrForm},
		"vector":                   {num(api.Bits{W: 2, V: 4}, false), api.ErrForm},
		"no vector":                {num(api.Bits{}, false), api.ErrForm},
		"signed":                   {S.Node{Kind: S.Name, Name: "K", Signed: true}, api.ErrForm},
		"text":                     {S.Node{Kind: S.Name, Name: "K", Text: "K"}, api.ErrForm},
		"bit of a number":          {of(S.Index, one, one), api.ErrType},
		"bit of a cat":             {of(S.Index, of(S.Cat, name("K")), one), api.ErrType},
		"empty cat":                {of(S.Cat), api.ErrForm},
		"levels":                   {nested(S.Plus, S.MaxDepth+1), api.ErrLarge},
		"levels, and no kind":      {of(-1, nested(S.Plus, S.MaxDepth)), api.ErrLarge},
		"behind a name":            {of(S.Add, name("zz"), of(S.Neg)), api.ErrForm},
		"behind a range":           {of(S.Add, of(S.Index, name("K"), num(vec("1000"), false)), name("")), api.ErrForm},
		"behind what is too large": {of(S.Add, of(S.Rep, num(vec("1000001"), false), one), S.Node{Kind: -1}), api.ErrRange},
		"behind a signal":          {of(S.Add, name("a"), S.Node{Kind: S.Nop}), api.ErrType},
	} {
		if S.CheckExpr(x.n) != x.want {
			t.Errorf("%s: the tree has error %d", what, S.CheckExpr(x.n))
		}
		refused(t, what, x.n, x.want)
	}
}

// sum returns a sum of as many ones of 16 bits.
func sum(ones int) S.Node {
	if ones == 1 {
		return num(vec("0000000000000001"), false)
	}
	return S.Node{Kind: S.Add, Kids: []S.Node{sum(ones / 2), sum(ones - ones/2)}}
}

// P11.1: the limits of trees, and those of what they become.
func TestLimits(t *testing.T) {
	if b, _, e := fold.Value(nested(S.Plus, S.MaxDepth), env()); states(b) != "0001" || e != api.OK {
		t.Error("as many levels as there can be:", b, e)
	}
	if b, _, e := fold.Value(nested(S.Not, api.MaxDeep), env()); states(b) != "1110" || e != api.OK {
		t.Error("as many levels as an expression of a design can have:", b, e)
	}
	refused(t, "too many levels of an expression of a design", nested(S.Not, api.MaxDeep+1), api.ErrLarge)
	full := S.Node{Kind: S.Plus, Kids: []S.Node{sum(S.MaxNodes / 2)}}
	if b, _, e := fold.Value(full, env()); b != (api.Bits{W: 16, V: S.MaxNodes / 2}) || e != api.OK {
		t.Error("as many nodes as there can be:", b, e)
	}
	refused(t, "too many nodes", S.Node{Kind: S.Plus, Kids: []S.Node{full}}, api.ErrLarge)
}

// P11.1: no names and no functions are needed where none are used.
func TestEmptyEnvironment(t *testing.T) {
	for s, want := range map[string]bool{"1": true, "4'd1": false, "1 + 4'd1": false, "signed(4'd1) + 1": true, "1 < 2": false, "log(3)": true} {
		if b, signed, e := fold.Value(node(t, s), width.Env{}); signed != want || b.W == 0 || e != api.OK {
			t.Error(s, b, signed, e)
		}
	}
	if b, signed, e := fold.Value(node(t, "K"), width.Env{}); e != api.ErrNone || b != (api.Bits{}) || signed {
		t.Error(b, signed, e)
	}
}
