package design

import (
	"math/rand"
	"reflect"
	"regexp"
	"slices"
	"strings"
	"testing"

	"maskwright/api"
)

// rules of expressions: the number of kids, the letters of the fields, and the widths (= means that of the expression, 1 a single bit, x and y widths that are the same, . any).
const opRules = `
Const  - NS  =       | Ref    - VS  =       | Elem   . VS  =       | Slice  . AS  =       | Part   .. S  =
Not    = S   =       | Neg    = S   =       | RedAnd . F   1       | RedOr  . F   1       | RedXor . F   1
LNot   . F   1       | LAnd   .. F  1       | LOr    .. F  1       | And    == S  =       | Or     == S  =
Xor    == S  =       | Add    == S  =       | Sub    == S  =       | Mul    == S  =       | Div    == S  =
Mod    == S  =       | Shl    =. S  =       | Shr    =. S  =       | Sar    =. S  =       | Eq     xx F  1
Ne     xx F  1       | CaseEq xx F  1       | CaseNe xx F  1       | Lt     xx S  1       | Le     xx S  1
Cond   .== S =       | Cat    + S   =       | Rep    . AS  =       | Resize . S   =       | Call   * AS  =
Now    - S   =`

// rules of statements: the numbers of Args and Kids as regular expressions, and the letters of the other fields.
const stmtRules = `
Nop - - - | Block - x* - | If x xx? - | Case x - IK | While x x - | Repeat x x - | Set xx? - T | Put xx? - T
Delay x - - | On - - E | Until x - - | Show x* - XK | Check x - X | Stop - - -`

// rules of sequences: the number of kids as a regular expression, and the letters of the fields.
const sequenceRules = `Holds - E | Then xx B | Either xx* - | Both xx - | Times x B`

// table returns the rows of rules.
func table(rules string) [][]string {
	var rows [][]string
	for _, s := range strings.Split(strings.ReplaceAll(strings.TrimSpace(rules), "\n", "|"), "|") {
		rows = append(rows, strings.Fields(s))
	}
	return rows
}

// judge is a model of Check: it panics with the first error, in the order of the chapter.
type judge struct {
	d                       api.Design
	exprs, stmts, sequences [][]string
	signals                 []api.Signal
	function                int
	kind                    string // of the process
	patterns                map[string]*regexp.Regexp
}

// newJudge returns a judge of a design.
func newJudge(d api.Design) *judge {
	return &judge{d: d, exprs: table(opRules), stmts: table(stmtRules), sequences: table(sequenceRules), patterns: map[string]*regexp.Regexp{}}
}

// verdict returns the error with which f panics.
func verdict(f func()) (e api.Errno) {
	defer func() {
		if x := recover(); x != nil {
			e = x.(api.Errno)
		}
	}()
	f()
	return api.OK
}

// must panics with an error if a condition is false.
func must(condition bool, e api.Errno) {
	if !condition {
		panic(e)
	}
}

// counts reports whether a number of parts has a pattern.
func (j *judge) counts(pattern string, n int) bool {
	if j.patterns[pattern] == nil {
		j.patterns[pattern] = regexp.MustCompile("^" + strings.TrimPrefix(pattern, "-") + "$")
	}
	return j.patterns[pattern].MatchString(strings.Repeat("x", n))
}

var nameOf = regexp.MustCompile(`^[!#-Z\^-~]+$`)

// part and name are the rules of P8.1.
func part(s string) bool { return nameOf.MatchString(s) && len(s) <= 40 && !strings.Contains(s, ".") }

func name(s string) bool {
	return len(s) <= 120 && !slices.ContainsFunc(strings.Split(s, "."), func(p string) bool { return !part(p) })
}

func (j *judge) design() {
	d := j.d
	must(part(d.Name), api.ErrName)
	must(len(d.Signals) <= 160 && len(d.Funcs) <= 16 && len(d.Procs) <= 96 && len(d.Props) <= 16, api.ErrLarge)
	for _, p := range d.Procs {
		must(len(p.Edges) <= 8, api.ErrLarge)
	}
	j.names(d.Signals, j.signal)
	ports := [3]int{}
	for _, s := range d.Signals {
		ports[s.Port] += s.W
	}
	must(ports[1] <= 96 && ports[2] <= 96, api.ErrLarge)
	for i, f := range d.Funcs {
		must(name(f.Name), api.ErrName)
		must(!slices.ContainsFunc(d.Funcs[:i], func(g api.Func) bool { return g.Name == f.Name }), api.ErrTwice)
		must(0 <= f.Args && f.Args <= len(f.Vars)-1, api.ErrRange)
		j.names(f.Vars, func(k int, s api.Signal) {
			j.signal(k, s)
			must(s.Port == 0 && s.Kind == 1 && len(s.Init) == 0 && (k > f.Args || s.Elems == 1), api.ErrForm)
		})
		j.signals, j.function, j.kind = f.Vars, i, "Func"
		j.stmt(f.Body)
	}
	j.signals, j.function = d.Signals, -1
	for _, p := range d.Procs {
		must(name(p.Name), api.ErrName)
		must(p.Kind >= 0 && p.Kind < 5 && p.Line >= 0, api.ErrRange)
		j.kind = strings.Fields("Cont Comb Seq Always Initial")[p.Kind]
		must(j.kind != "Seq" || len(p.Edges) > 0, api.ErrForm)
		must(j.kind == "Seq" || len(p.Edges) == 0, api.ErrForm)
		must(j.kind != "Cont" || p.Body.Op == api.Set, api.ErrForm)
		j.edges(p.Edges)
		j.stmt(p.Body)
	}
	j.kind = "Prop"
	for i, p := range d.Props {
		must(name(p.Name), api.ErrName)
		must(!slices.ContainsFunc(d.Props[:i], func(g api.Prop) bool { return g.Name == p.Name }), api.ErrTwice)
		must(p.Line >= 0, api.ErrRange)
		must(0 <= p.Clock && p.Clock < len(d.Signals), api.ErrNone)
		must(d.Signals[p.Clock].Elems == 1, api.ErrType)
		j.sequence(p.From)
		j.sequence(p.To)
	}
}

// names checks signals.
func (j *judge) names(list []api.Signal, check func(i int, s api.Signal)) {
	for i, s := range list {
		must(name(s.Name), api.ErrName)
		must(!slices.ContainsFunc(list[:i], func(x api.Signal) bool { return x.Name == s.Name }), api.ErrTwice)
		check(i, s)
	}
}

func (j *judge) signal(_ int, s api.Signal) {
	within := func(n, lo, hi int) { must(lo <= n && n <= hi, api.ErrRange) }
	within(s.Port, 0, 2)
	within(s.Kind, 0, 1)
	within(s.W, 1, 64)
	within(s.Elems, 1, 32)
	must(s.Port == 0 || s.Elems == 1, api.ErrForm)
	must(s.Port != 1 || s.Kind == 0, api.ErrForm)
	must(s.Kind == 1 || len(s.Init) == 0, api.ErrForm)
	must(len(s.Init) == 0 || len(s.Init) == s.Elems, api.ErrForm)
	for _, b := range s.Init {
		must(vectorOf(b, s.W), api.ErrForm)
	}
}

// vectorOf reports whether a vector is valid and has w bits.
func vectorOf(b api.Bits, w int) bool {
	return b.W == w && (w == 64 || b.V>>w == 0 && b.X>>w == 0)
}

func (j *judge) expr(e api.Expr) {
	for _, kid := range e.Kids {
		j.expr(kid)
	}
	must(e.Op >= 0 && e.Op < len(j.exprs) && e.W >= 1 && e.W <= 64, api.ErrRange)
	row := j.exprs[e.Op]
	op, kids, fields, width := row[0], row[1], row[2], row[3]
	switch kids {
	case "+":
		must(len(e.Kids) > 0, api.ErrForm)
	case "*":
	case "-":
		must(len(e.Kids) == 0, api.ErrForm)
	default:
		must(len(e.Kids) == len(kids), api.ErrForm)
	}
	unused := func(letter string, zero bool) { must(zero || strings.Contains(fields, letter), api.ErrForm) }
	unused("N", e.N.W == 0 && e.N.V == 0 && e.N.X == 0)
	unused("V", e.Sig == 0)
	unused("V", !e.Local)
	unused("A", e.At == 0)
	unused("S", !e.Signed)
	switch op {
	case "Ref", "Elem":
		must(e.Local == (j.kind == "Func") && e.Sig >= 0 && e.Sig < len(j.signals), api.ErrNone)
		must(op == "Elem" || j.signals[e.Sig].Elems == 1, api.ErrType)
		must(e.W == j.signals[e.Sig].W, api.ErrWidth)
		return
	case "Call":
		must(e.At >= 0 && e.At < len(j.d.Funcs), api.ErrNone)
		must(j.kind != "Func" || e.At < j.function, api.ErrLoop)
		f := j.d.Funcs[e.At]
		must(len(e.Kids) == f.Args, api.ErrForm)
		for i, v := range f.Vars[:f.Args] {
			must(e.Kids[i].W == v.W, api.ErrWidth)
		}
		must(f.Vars[f.Args].W == e.W, api.ErrWidth)
		return
	case "Now":
		must(j.kind != "Func", api.ErrType)
		must(e.W == 64, api.ErrWidth)
	case "Const":
		must(vectorOf(e.N, e.W), api.ErrWidth)
	case "Slice":
		for i := range e.W {
			must(e.At+i >= 0 && e.At+i < e.Kids[0].W, api.ErrWidth)
		}
	case "Rep":
		must(e.At >= 1 && e.At <= 64 && e.W == e.At*e.Kids[0].W, api.ErrWidth)
	case "Cat":
		left := e.W
		for _, kid := range e.Kids {
			left -= kid.W
		}
		must(left == 0, api.ErrWidth)
	}
	must(width == "=" || e.W == 1, api.ErrWidth)
	for i, c := range kids {
		must(c != '=' || e.Kids[i].W == e.W, api.ErrWidth)
		must(c != 'x' || e.Kids[i].W == e.Kids[0].W, api.ErrWidth)
	}
}

func (j *judge) edges(list []api.Edge) {
	for _, g := range list {
		must(g.Kind >= 0 && g.Kind < 3, api.ErrRange)
		must(g.Sig >= 0 && g.Sig < len(j.signals), api.ErrNone)
		must(j.signals[g.Sig].Elems == 1, api.ErrType)
	}
}

func (j *judge) stmt(s api.Stmt) {
	must(s.Op >= 0 && s.Op < len(j.stmts) && s.Line >= 0, api.ErrRange)
	row := j.stmts[s.Op]
	op, fields := row[0], row[3]
	must(j.counts(row[1], len(s.Args)) && j.counts(row[2], len(s.Kids)), api.ErrForm)
	unused := func(letter string, zero bool) { must(zero || strings.Contains(fields, letter), api.ErrForm) }
	unused("T", reflect.DeepEqual(s.To, api.Expr{}) || reflect.DeepEqual(s.To, api.Expr{Kids: []api.Expr{}}))
	unused("I", len(s.Items) == 0)
	unused("K", s.Kind == 0)
	unused("E", len(s.Edges) == 0)
	unused("X", len(s.Text) == 0)
	must(op != "On" || len(s.Edges) > 0, api.ErrForm)
	must(len(s.Edges) <= 8 && len(s.Text) <= 200, api.ErrLarge)
	if op == "Set" && len(s.Args) == 2 {
		op = "Late"
	}
	forbidden := map[string]string{"Func": "Put Delay On Until Show Check Stop Late", "Cont": "Delay On Until Late", "Comb": "Delay On Until Late", "Seq": "Delay On Until Late"}
	must(!slices.Contains(strings.Fields(forbidden[j.kind]), op), api.ErrType)
	for _, e := range s.Args {
		j.expr(e)
	}
	j.edges(s.Edges)
	if strings.Contains(fields, "T") {
		j.expr(s.To)
		j.target(s.To)
		must(s.To.W == s.Args[0].W, api.ErrWidth)
	}
	kinds := map[string]int{"Case": 3, "Show": 4}
	must(!strings.Contains(fields, "K") || s.Kind >= 0 && s.Kind < kinds[op], api.ErrRange)
	for _, kid := range s.Kids {
		j.stmt(kid)
	}
	others := 0
	for _, item := range s.Items {
		for _, e := range item.Match {
			j.expr(e)
			must(e.W == s.Args[0].W, api.ErrWidth)
		}
		if len(item.Match) == 0 {
			others++
			must(others < 2, api.ErrTwice)
		}
		j.stmt(item.Do)
	}
}

func (j *judge) target(e api.Expr) {
	op := j.exprs[e.Op][0]
	if op == "Cat" {
		for _, kid := range e.Kids {
			j.target(kid)
		}
		return
	}
	var indices []api.Expr
	inner := e
	if op == "Slice" || op == "Part" {
		inner = e.Kids[0]
		indices = e.Kids[1:]
	}
	what := j.exprs[inner.Op][0]
	must(what == "Ref" || what == "Elem", api.ErrForm)
	s := j.signals[inner.Sig]
	must(s.Port != 1, api.ErrType)
	must((j.kind == "Cont") == (s.Kind == 0), api.ErrType)
	for _, i := range append(indices[:len(indices):len(indices)], inner.Kids...) {
		must(j.kind != "Cont" || i.Op == 0, api.ErrConst)
	}
}

func (j *judge) sequence(t api.Temporal) {
	for _, kid := range t.Kids {
		j.sequence(kid)
	}
	must(t.Op >= 0 && t.Op < len(j.sequences), api.ErrRange)
	row := j.sequences[t.Op]
	must(j.counts(row[1], len(t.Kids)), api.ErrForm)
	must(row[2] == "B" || t.Lo == 0 && t.Hi == 0, api.ErrForm)
	must(row[2] == "E" || reflect.DeepEqual(t.E, api.Expr{}), api.ErrForm)
	must(t.Lo >= 0 && t.Lo <= 64 && (t.Hi == -1 || t.Hi >= t.Lo && t.Hi <= 64), api.ErrRange)
	if row[2] == "E" {
		j.expr(t.E)
	}
}

// spoil changes something in a design.
func spoil(r *rand.Rand, d *api.Design) {
	var list []reflect.Value
	eachLeaf(reflect.ValueOf(d).Elem(), "", func(v reflect.Value, _ string) { list = append(list, v) })
	v := list[r.Intn(len(list))]
	switch v.Kind() {
	case reflect.Int:
		numbers := []int64{v.Int() + 1, v.Int() - 1, -1, 0, 1, 2, 4, 64, 65, int64(r.Intn(40)), 1 << 62}
		v.SetInt(numbers[r.Intn(len(numbers))])
	case reflect.Uint64:
		v.SetUint(v.Uint() ^ 1<<r.Intn(64))
	case reflect.Bool:
		v.SetBool(!v.Bool())
	case reflect.String:
		texts := []string{"", "a.", "s0", "s1", "v0", "f0", "p0", strings.Repeat("x", 41), strings.Repeat("x", 201)}
		v.SetString(texts[r.Intn(len(texts))])
	case reflect.Slice:
		spoilList(r, v)
	}
}

// swap exchanges two expressions of a design; often they have the same width.
func swap(r *rand.Rand, d *api.Design) {
	var list []*api.Expr
	eachLeaf(reflect.ValueOf(d).Elem(), "", func(v reflect.Value, _ string) {
		if x, ok := v.Addr().Interface().(*[]api.Expr); ok {
			for i := range *x {
				list = append(list, &(*x)[i])
			}
		}
	})
	for range 20 {
		if len(list) == 0 {
			return
		}
		x, y := list[r.Intn(len(list))], list[r.Intn(len(list))]
		if x.W == y.W && (x.Op == api.Const || y.Op == api.Const || x.Op == api.Call) || r.Intn(20) == 0 {
			*x, *y = copyOf(*y, 0), copyOf(*x, 0)
			return
		}
	}
}

// spoilList removes, repeats, swaps or empties elements of a list.
func spoilList(r *rand.Rand, v reflect.Value) {
	n := v.Len()
	if n == 0 {
		v.Set(reflect.MakeSlice(v.Type(), 1, 1))
		return
	}
	i, k := r.Intn(n), r.Intn(n)
	switch r.Intn(4) {
	case 0:
		v.Set(v.Slice(0, n-1))
	case 1:
		again := reflect.New(v.Type().Elem()).Elem()
		copyInto(again, v.Index(i), 0)
		v.Set(reflect.Append(v.Slice3(0, n, n), again))
	case 2:
		x, y := reflect.New(v.Type().Elem()).Elem(), reflect.New(v.Type().Elem()).Elem()
		x.Set(v.Index(i))
		y.Set(v.Index(k))
		v.Index(i).Set(y)
		v.Index(k).Set(x)
	case 3:
		v.Set(reflect.Zero(v.Type()))
	}
}

// P8.3 to P8.8: Check against the model, on designs that are valid, and on designs in which some things were changed.
func TestCheckOfRandomDesigns(t *testing.T) {
	seen := map[api.Errno]int{}
	for seed := range int64(350) {
		d := grown(seed)
		if e := Check(d); e != api.OK || verdict(newJudge(d).design) != api.OK {
			t.Fatalf("design %d: %d", seed, e)
		}
		r := rand.New(rand.NewSource(seed))
		for i := range 24 {
			x := copyOf(d, 0)
			for range 1 + r.Intn(2) {
				if i%3 == 0 {
					swap(r, &x)
				} else {
					spoil(r, &x)
				}
			}
			want := verdict(newJudge(x).design)
			seen[want]++
			if e := Check(x); e != want {
				t.Fatalf("design %d: %d, not %d", seed, e, want)
			}
		}
	}
	for _, e := range []api.Errno{api.OK, api.ErrRange, api.ErrForm, api.ErrTwice, api.ErrNone, api.ErrType, api.ErrName, api.ErrLoop, api.ErrConst, api.ErrWidth} {
		if seen[e] < 3 {
			t.Errorf("error %d was seen %d times", e, seen[e])
		}
	}
}
