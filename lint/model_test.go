package lint_test

import (
	"math/big"
	"math/bits"
	"slices"
	"testing"

	"maskwright/api"
	"maskwright/lint"
)

// bit is a bit of an element of a signal.
type bit struct{ sig, elem, at int }

// bitSet is a set of bits.
type bitSet map[bit]bool

// judge is a model of Accept: it works on single bits, and on all ways through a body.
type judge struct {
	d             api.Design
	found         map[lint.Reason]bool
	reads, drives []bitSet // of processes
	propReads     bitSet
	named         map[[3]int]bool // a process, a signal, and an operation with this signal in its target
}

// newJudge returns a judge of a design.
func newJudge(d api.Design) *judge {
	j := &judge{d: d, found: map[lint.Reason]bool{}, propReads: bitSet{}, named: map[[3]int]bool{}}
	for i := range d.Procs {
		j.reads = append(j.reads, j.readsOf(i))
		j.drives = append(j.drives, j.drivesOf(i))
		for _, s := range all(d.Procs[i].Body) {
			for _, e := range placesOf(s) {
				j.named[[3]int{i, inner(e).Sig, s.Op}] = true
			}
		}
	}
	for _, e := range readsOf(j.propExprs()...) {
		j.propReads.add(bitsOf(d.Signals, e)...)
	}
	return j
}

func (j *judge) add(rule, proc, function, sig int) {
	j.found[lint.Reason{Rule: rule, Proc: proc, Func: function, Sig: sig}] = true
}

// value returns the number of a constant that is known.
func value(e api.Expr) (*big.Int, bool) {
	if e.Op != api.Const || e.N.X != 0 {
		return nil, false
	}
	n := new(big.Int)
	for i := range e.W {
		if e.N.V>>i&1 == 1 {
			weight := new(big.Int).Lsh(big.NewInt(1), uint(i))
			if e.Signed && i == e.W-1 {
				weight.Neg(weight)
			}
			n.Add(n, weight)
		}
	}
	return n, true
}

// inner returns the Ref or Elem of a place; one without width if it is none.
func inner(e api.Expr) api.Expr {
	for range 2 {
		switch {
		case e.Op == api.Ref || e.Op == api.Elem:
			return e
		case e.Op == api.Slice || e.Op == api.Part:
			if e = e.Kids[0]; e.Op == api.Slice || e.Op == api.Part {
				return api.Expr{}
			}
		}
	}
	return api.Expr{}
}

// bitsOf returns the bits that a place names.
func bitsOf(signals []api.Signal, e api.Expr) []bit {
	var all []bit
	in := inner(e)
	s := signals[in.Sig]
	for k := range s.Elems {
		if in.Op == api.Elem {
			if n, ok := value(in.Kids[0]); ok && n.Cmp(big.NewInt(int64(k))) != 0 {
				continue
			}
		}
		for i := range s.W {
			from := big.NewInt(int64(e.At))
			if e.Op == api.Part {
				n, ok := value(e.Kids[1])
				if !ok {
					n = big.NewInt(int64(i))
				}
				from = n
			}
			to := new(big.Int).Add(from, big.NewInt(int64(e.W)))
			at := big.NewInt(int64(i))
			if e.Op == api.Ref || e.Op == api.Elem || from.Cmp(at) <= 0 && at.Cmp(to) < 0 {
				all = append(all, bit{in.Sig, k, i})
			}
		}
	}
	return all
}

// indicesOf returns the indices of a place.
func indicesOf(e api.Expr) []api.Expr {
	list := slices.Clone(inner(e).Kids)
	if e.Op == api.Part {
		list = append(list, e.Kids[1])
	}
	return list
}

// readsOf returns the places that expressions read.
func readsOf(list ...api.Expr) []api.Expr {
	var all []api.Expr
	for _, e := range list {
		if inner(e).W > 0 {
			all = append(all, e)
			all = append(all, readsOf(indicesOf(e)...)...)
		} else {
			all = append(all, readsOf(e.Kids...)...)
		}
	}
	return all
}

// placesOf returns the places of a target.
func placesOf(s api.Stmt) []api.Expr {
	if s.Op != api.Set && s.Op != api.Put {
		return nil
	}
	list := []api.Expr{s.To}
	for i := 0; i < len(list); i++ {
		if list[i].Op == api.Cat {
			list = slices.Concat(list[:i], list[i].Kids, list[i+1:])
			i--
		}
	}
	return list
}

// all returns a statement and those in it.
func all(s api.Stmt) []api.Stmt {
	list := []api.Stmt{s}
	for _, kid := range s.Kids {
		list = append(list, all(kid)...)
	}
	for _, item := range s.Items {
		list = append(list, all(item.Do)...)
	}
	return list
}

// topsOf returns what a statement has in Args, Matches and indices of targets.
func topsOf(s api.Stmt) []api.Expr {
	list := slices.Clone(s.Args)
	for _, item := range s.Items {
		list = append(list, item.Match...)
	}
	for _, e := range placesOf(s) {
		list = append(list, indicesOf(e)...)
	}
	return list
}

// readsOf and drivesOf return the bits that a process reads, and drives.
func (j *judge) readsOf(proc int) bitSet {
	found := bitSet{}
	p := j.d.Procs[proc]
	edges := slices.Clone(p.Edges)
	for _, s := range all(p.Body) {
		edges = append(edges, s.Edges...)
		for _, e := range readsOf(topsOf(s)...) {
			found.add(bitsOf(j.d.Signals, e)...)
		}
	}
	for _, g := range edges {
		found.add(bitsOf(j.d.Signals, api.Expr{Op: api.Ref, Sig: g.Sig, W: 1})...)
	}
	return found
}

func (j *judge) drivesOf(proc int) bitSet {
	found := bitSet{}
	for _, s := range all(j.d.Procs[proc].Body) {
		for _, e := range placesOf(s) {
			found.add(bitsOf(j.d.Signals, e)...)
		}
	}
	return found
}

func (b bitSet) add(list ...bit) {
	for _, x := range list {
		b[x] = true
	}
}

// has reports whether a process has a statement of one of some operations with a signal in the target.
func (j *judge) has(proc, sig int, ops ...int) bool {
	return slices.ContainsFunc(ops, func(op int) bool { return j.named[[3]int{proc, sig, op}] })
}

// putsTo reports whether a body has a Put to a signal.
func putsTo(body api.Stmt, sig int) bool {
	return slices.ContainsFunc(all(body), func(s api.Stmt) bool {
		return s.Op == api.Put && slices.ContainsFunc(placesOf(s), func(e api.Expr) bool { return inner(e).Sig == sig })
	})
}

// sequenceExprs returns the expressions of a sequence.
func sequenceExprs(t api.Temporal) []api.Expr {
	var list []api.Expr
	if t.Op == api.Holds {
		list = append(list, t.E)
	}
	for _, kid := range t.Kids {
		list = append(list, sequenceExprs(kid)...)
	}
	return list
}

func (j *judge) propExprs() []api.Expr {
	var list []api.Expr
	for _, p := range j.d.Props {
		list = append(list, sequenceExprs(p.From)...)
		list = append(list, sequenceExprs(p.To)...)
	}
	return list
}

// each calls f for all expressions in a list, with what is in them.
func each(list []api.Expr, f func(api.Expr)) {
	for _, e := range list {
		f(e)
		each(e.Kids, f)
	}
}

// expressions calls f for the expressions of all bodies and properties; free says that it is a pattern with free states.
func (j *judge) expressions(f func(proc, function int, vars []api.Signal, e api.Expr, free bool)) {
	body := func(proc, function int, vars []api.Signal, s api.Stmt) {
		for _, s := range all(s) {
			list := append(slices.Clone(s.Args), s.To)
			if s.Op != api.Set && s.Op != api.Put {
				list = s.Args
			}
			each(list, func(e api.Expr) { f(proc, function, vars, e, false) })
			for _, item := range s.Items {
				for _, e := range item.Match {
					f(proc, function, vars, e, s.Kind != api.Exact)
					each(e.Kids, func(e api.Expr) { f(proc, function, vars, e, false) })
				}
			}
		}
	}
	for i, p := range j.d.Procs {
		body(i, -1, j.d.Signals, p.Body)
	}
	for i, x := range j.d.Funcs {
		body(-1, i, x.Vars, x.Body)
	}
	each(j.propExprs(), func(e api.Expr) { f(-1, -1, j.d.Signals, e, false) })
}

// atMost is the rule of P13.9.
func atMost(e api.Expr, n int) bool {
	if e.Op == api.Const {
		x, ok := value(e)
		return ok && x.Sign() >= 0 && x.Cmp(big.NewInt(int64(n))) <= 0
	}
	return !e.Signed && e.W < 32 && 1<<e.W-1 <= n
}

// simple looks at the rules for single statements and expressions.
func (j *judge) simple() {
	for i, p := range j.d.Procs {
		if p.Kind == api.Always || p.Kind == api.Initial {
			j.add(lint.Kind, i, -1, -1)
		}
	}
	kinds := func(proc, function int, body api.Stmt) {
		for _, s := range all(body) {
			late := (s.Op == api.Set || s.Op == api.Put) && len(s.Args) > 1
			if late || slices.Contains([]int{api.Show, api.Check, api.Stop, api.While, api.Repeat, api.Delay, api.On, api.Until}, s.Op) {
				j.add(lint.Kind, proc, function, -1)
			}
		}
	}
	for i, p := range j.d.Procs {
		kinds(i, -1, p.Body)
	}
	for i, f := range j.d.Funcs {
		kinds(-1, i, f.Body)
	}
	clock := j.clock()
	j.expressions(func(proc, function int, vars []api.Signal, e api.Expr, free bool) {
		if e.Op == api.Now {
			j.add(lint.Kind, proc, function, -1)
		}
		if (e.Op == api.Ref || e.Op == api.Elem) && function < 0 && e.Sig == clock {
			j.add(lint.Clock, proc, function, clock)
		}
		if e.Op == api.Const && e.N.X != 0 && !free {
			j.add(lint.Unknown, proc, function, -1)
		}
		if e.Op == api.Elem && !atMost(e.Kids[0], vars[e.Sig].Elems-1) {
			j.add(lint.Index, proc, function, e.Sig)
		}
		if e.Op == api.Part && !atMost(e.Kids[1], e.Kids[0].W-e.W) {
			j.add(lint.Index, proc, function, -1)
		}
		if e.Op == api.Div || e.Op == api.Mod {
			if n, ok := value(e.Kids[1]); !ok || n.Sign() == 0 {
				j.add(lint.Division, proc, function, -1)
			}
		}
	})
}

func (j *judge) clock() int {
	for _, p := range j.d.Procs {
		if p.Kind == api.Seq {
			return p.Edges[0].Sig
		}
	}
	for _, p := range j.d.Props {
		return p.Clock
	}
	return -1
}

// line reports whether a signal is an In port of a bit.
func (j *judge) line(sig int) bool {
	return j.d.Signals[sig].Port == api.In && j.d.Signals[sig].W == 1
}

func (j *judge) clocks() {
	clock := j.clock()
	if clock >= 0 && !j.line(clock) {
		j.add(lint.Clock, -1, -1, clock)
	}
	for i, p := range j.d.Procs {
		if p.Kind == api.Seq && (p.Edges[0].Kind != api.Rise || p.Edges[0].Sig != clock || len(p.Edges) > 2) {
			j.add(lint.Clock, i, -1, p.Edges[0].Sig)
		}
	}
	for _, p := range j.d.Props {
		if p.Clock != clock {
			j.add(lint.Clock, -1, -1, p.Clock)
		}
	}
}

// resets returns the processes with a reset, in order.
func (j *judge) resets() []int {
	var list []int
	for i, p := range j.d.Procs {
		if p.Kind == api.Seq && len(p.Edges) == 2 && p.Edges[0].Sig == j.clock() && p.Edges[0].Kind == api.Rise {
			list = append(list, i)
		}
	}
	return list
}

func (j *judge) reset() {
	for _, i := range j.resets() {
		p, first := j.d.Procs[i], j.d.Procs[j.resets()[0]].Edges[1]
		g := p.Edges[1]
		if g.Sig != first.Sig || g.Sig == j.clock() || !j.line(g.Sig) || g.Kind == api.Any || g.Kind != first.Kind || p.Body.Op != api.If || len(p.Body.Kids) < 2 {
			j.add(lint.Reset, i, -1, g.Sig)
			continue
		}
		cond := p.Body.Args[0]
		if g.Kind == api.Fall && cond.Op != api.LNot {
			j.add(lint.Reset, i, -1, g.Sig)
			continue
		}
		if g.Kind == api.Fall {
			cond = cond.Kids[0]
		}
		list := true
		for _, s := range all(p.Body.Kids[0]) {
			isPut := s.Op == api.Put && len(s.Args) == 1 && s.Args[0].Op == api.Const && s.To.Op == api.Ref
			list = list && (s.Op == api.Nop || s.Op == api.Block || isPut)
		}
		if !list || cond.Op != api.Ref || cond.Sig != g.Sig {
			j.add(lint.Reset, i, -1, g.Sig)
		}
		for sig := range j.d.Signals {
			if putsTo(p.Body.Kids[1], sig) && (!list || !putsTo(p.Body.Kids[0], sig)) {
				j.add(lint.Reset, i, -1, sig)
			}
		}
	}
}

// everything returns all bits of a signal.
func (j *judge) everything(sig int) []bit {
	var list []bit
	for k := range j.d.Signals[sig].Elems {
		for i := range j.d.Signals[sig].W {
			list = append(list, bit{sig, k, i})
		}
	}
	return list
}

// drivers returns the drivers of all bits; -1 stands for a port.
func (j *judge) drivers() map[bit][]int {
	drivers := map[bit][]int{}
	for sig, s := range j.d.Signals {
		for _, b := range j.everything(sig) {
			if s.Port == api.In {
				drivers[b] = append(drivers[b], -1)
			}
			for i, p := range j.d.Procs {
				if p.Kind == api.Seq && j.has(i, sig, api.Set, api.Put) {
					drivers[b] = append(drivers[b], i)
				}
			}
		}
	}
	for i, p := range j.d.Procs {
		for b := range j.drives[i] {
			if p.Kind != api.Seq {
				drivers[b] = append(drivers[b], i)
			}
		}
	}
	return drivers
}

func (j *judge) signals() {
	drivers := j.drivers()
	for b, list := range drivers {
		for _, i := range list {
			if j.d.Signals[b.sig].Kind == api.Wire && i > slices.Min(list) {
				j.add(lint.Several, i, -1, b.sig)
			}
		}
	}
	for sig, s := range j.d.Signals {
		var writers []int
		for i := range j.d.Procs {
			if s.Kind == api.Var && j.has(i, sig, api.Set, api.Put) {
				writers = append(writers, i)
			}
		}
		if len(writers) > 1 {
			j.add(lint.Several, writers[1], -1, sig)
		}
		for _, b := range j.everything(sig) {
			if s.Port == api.Out && len(drivers[b]) == 0 {
				j.add(lint.None, -1, -1, sig)
			}
		}
	}
	for i := range j.d.Procs {
		for b := range j.reads[i] {
			if len(drivers[b]) == 0 {
				j.add(lint.None, i, -1, b.sig)
			}
		}
	}
	for b := range j.propReads {
		if len(drivers[b]) == 0 {
			j.add(lint.None, -1, -1, b.sig)
		}
	}
}

func (j *judge) assigned() {
	for i, p := range j.d.Procs {
		for sig, s := range j.d.Signals {
			if p.Kind == api.Comb && j.has(i, sig, api.Put) {
				j.add(lint.Assigned, i, -1, sig)
			}
			if p.Kind != api.Seq || !j.has(i, sig, api.Set) {
				continue
			}
			beside := j.has(i, sig, api.Put) || s.Port == api.Out
			for k := range j.d.Procs {
				for b := range j.reads[k] {
					beside = beside || k != i && b.sig == sig
				}
			}
			for b := range j.propReads {
				beside = beside || b.sig == sig
			}
			if beside {
				j.add(lint.Assigned, i, -1, sig)
			}
		}
	}
}

// step is a thing that happens on a way through a body: bits are read, or set, or a loop begins or ends.
type step struct {
	read, set  []bit
	begin, end bool
}

// ways returns all ways through a statement; nil if there are too many.
func ways(signals []api.Signal, s api.Stmt) [][]step {
	first := step{}
	for _, e := range readsOf(topsOf(s)...) {
		first.read = append(first.read, bitsOf(signals, e)...)
	}
	start := [][]step{{first}}
	switch s.Op {
	case api.Set:
		for _, e := range placesOf(s) {
			if !slices.ContainsFunc(indicesOf(e), func(e api.Expr) bool { return e.Op != api.Const }) {
				start[0] = append(start[0], step{set: bitsOf(signals, e)})
			}
		}
	case api.Block:
		for _, kid := range s.Kids {
			start = then(start, ways(signals, kid))
		}
	case api.If:
		next := ways(signals, s.Kids[0])
		if len(s.Kids) == 1 {
			return then(start, append(next, nil))
		}
		return then(start, append(next, ways(signals, s.Kids[1])...))
	case api.Case:
		var next [][]step
		for _, item := range s.Items {
			next = append(next, ways(signals, item.Do)...)
		}
		if !covers(s) {
			next = append(next, nil)
		}
		return then(start, next)
	case api.While, api.Repeat:
		inside := then([][]step{{{begin: true}}}, ways(signals, s.Kids[0]))
		return then(start, then(inside, [][]step{{{end: true}}}))
	}
	return start
}

// covers reports whether a Case is complete.
func covers(s api.Stmt) bool {
	fits := func(want uint64) bool {
		return slices.ContainsFunc(s.Items, func(item api.Item) bool {
			return slices.ContainsFunc(item.Match, func(e api.Expr) bool { return e.Op == api.Const && e.N.X == 0 && e.N.V == want })
		})
	}
	missing := s.Kind != api.Exact || s.Args[0].W > 6
	for want := uint64(0); !missing && want < 1<<s.Args[0].W; want++ {
		missing = !fits(want)
	}
	return !missing || slices.ContainsFunc(s.Items, func(item api.Item) bool { return len(item.Match) == 0 })
}

// most is the number of ways that the model follows; tooMany says that there are more.
const (
	most    = 3000
	tooMany = "too many ways"
)

// then returns all ways that begin like one of the first ones and go on like one of the second ones.
func then(first, second [][]step) [][]step {
	if len(first)*len(second) > most {
		panic(tooMany)
	}
	var list [][]step
	for _, a := range first {
		for _, b := range second {
			list = append(list, slices.Concat(a, b))
		}
	}
	return list
}

// follow returns the bits that are set on all ways, and calls miss for those that are read before.
func follow(ways [][]step, set bitSet, miss func(b bit)) bitSet {
	var sure bitSet
	for i, way := range ways {
		now := bitSet{}
		var saved []bitSet
		for b := range set {
			now[b] = true
		}
		for _, x := range way {
			for _, b := range x.read {
				if !now[b] {
					miss(b)
				}
			}
			now.add(x.set...)
			if x.begin {
				before := bitSet{}
				for b := range now {
					before[b] = true
				}
				saved = append(saved, before)
			}
			if x.end {
				now = saved[len(saved)-1]
				saved = saved[:len(saved)-1]
			}
		}
		for b := range sure {
			if !now[b] {
				delete(sure, b)
			}
		}
		if i == 0 {
			sure = now
		}
	}
	return sure
}

func (j *judge) latch() {
	for i, p := range j.d.Procs {
		if p.Kind != api.Comb && p.Kind != api.Seq {
			continue
		}
		sure := follow(ways(j.d.Signals, p.Body), nil, func(b bit) {
			if j.has(i, b.sig, api.Set) {
				j.add(lint.Latch, i, -1, b.sig)
			}
		})
		for b := range j.drives[i] {
			if p.Kind == api.Comb && !sure[b] {
				j.add(lint.Latch, i, -1, b.sig)
			}
		}
	}
	for i, f := range j.d.Funcs {
		args := bitSet{}
		for k := range f.Args {
			args.add(bitsOf(f.Vars, api.Expr{Op: api.Ref, Sig: k, W: 1})...)
		}
		sure := follow(ways(f.Vars, f.Body), args, func(b bit) { j.add(lint.Latch, -1, i, b.sig) })
		for _, b := range bitsOf(f.Vars, api.Expr{Op: api.Ref, Sig: f.Args, W: 1}) {
			if !sure[b] {
				j.add(lint.Latch, -1, i, f.Args)
			}
		}
	}
}

// before returns a table of the processes that come before others, with chains if all is true.
func (j *judge) before(chains bool) [][]bool {
	n := len(j.d.Procs)
	settles := func(i int) bool { return j.d.Procs[i].Kind == api.Cont || j.d.Procs[i].Kind == api.Comb }
	table := make([][]bool, n)
	for i := range n {
		table[i] = make([]bool, n)
		for k := range n {
			if !settles(i) || !settles(k) || i == k && j.d.Procs[i].Kind == api.Comb {
				continue
			}
			reads := j.reads[k]
			for b := range j.drives[i] {
				table[i][k] = table[i][k] || reads[b]
			}
		}
	}
	for range bits.Len(uint(n)) {
		for i := range n {
			for k := range n {
				for m := range n {
					if chains && table[i][m] && table[m][k] {
						table[i][k] = true
					}
				}
			}
		}
	}
	return table
}

func (j *judge) loops() {
	for i, row := range j.before(true) {
		if row[i] {
			j.add(lint.Loop, i, -1, -1)
		}
	}
}

// registers returns the variables with a Put in a Seq process.
func (j *judge) registers() []int {
	var list []int
	for sig := range j.d.Signals {
		for i, p := range j.d.Procs {
			if p.Kind == api.Seq && j.has(i, sig, api.Put) && !slices.Contains(list, sig) {
				list = append(list, sig)
			}
		}
	}
	return list
}

func (j *judge) states() {
	size := 0
	for _, sig := range j.registers() {
		size += len(j.everything(sig))
		s := j.d.Signals[sig]
		known := len(s.Init) > 0
		for _, b := range s.Init {
			known = known && b.X == 0
		}
		if !known {
			j.add(lint.Unknown, -1, -1, sig)
		}
	}
	if size > 256 {
		j.add(lint.Size, -1, -1, -1)
	}
}

// order returns the order of the processes that settle.
func (j *judge) order() []int {
	table := j.before(false)
	var list []int
	for {
		next := -1
		for i, p := range j.d.Procs {
			if p.Kind != api.Cont && p.Kind != api.Comb || slices.Contains(list, i) || next >= 0 {
				continue
			}
			next = i
			for k := range table {
				if table[k][i] && !slices.Contains(list, k) {
					next = -1
				}
			}
		}
		if next < 0 {
			return list
		}
		list = append(list, next)
	}
}

// report returns what Accept returns for a valid design; false if there are too many ways through a body.
func report(d api.Design) (r lint.Report, ok bool) {
	defer func() {
		if x := recover(); x == tooMany {
			r, ok = lint.Report{}, false
		} else if x != nil {
			panic(x)
		}
	}()
	j := newJudge(d)
	j.latch()
	j.simple()
	j.clocks()
	j.reset()
	j.signals()
	j.assigned()
	j.loops()
	j.states()
	for x := range j.found {
		r.Reasons = append(r.Reasons, x)
	}
	slices.SortFunc(r.Reasons, func(a, b lint.Reason) int {
		return slices.Compare([]int{a.Rule, a.Proc, a.Func, a.Sig}, []int{b.Rule, b.Proc, b.Func, b.Sig})
	})
	r.Clock, r.Reset = -1, -1
	if len(r.Reasons) == 0 {
		r.OK, r.Clock, r.Order = true, j.clock(), j.order()
		for _, i := range j.resets()[:min(1, len(j.resets()))] {
			r.Reset = d.Procs[i].Edges[1].Sig
		}
	}
	return r, true
}

// agrees checks a design against the model, and returns what Accept says of it.
func agrees(t *testing.T, what string, d api.Design) lint.Report {
	t.Helper()
	r, e := lint.Accept(d)
	if e != api.OK {
		t.Fatalf("%s: error %d", what, e)
	}
	want, ok := report(d)
	if !ok {
		return r
	}
	if r.OK != want.OK || r.Clock != want.Clock || r.Reset != want.Reset || !slices.Equal(r.Order, want.Order) || !slices.Equal(r.Reasons, want.Reasons) {
		t.Fatalf("%s:\n%v\nnot\n%v", what, r, want)
	}
	j := newJudge(d)
	if l := lint.Registers(d); !slices.Equal(l, j.registers()) {
		t.Fatalf("%s: registers %v, not %v", what, l, j.registers())
	}
	return r
}
