package lint

import "maskwright/api"

// driver is a process that drives bits.
type driver struct {
	proc int
	bits uint64
}

// isRun reports whether a process is one of those that settle.
func (c *checker) isRun(i int) bool {
	return c.Procs[i].Kind == api.Cont || c.Procs[i].Kind == api.Comb
}

// before returns, for each process, those that settle and come before it.
func (c *checker) before() []map[int]bool {
	drivers := map[place][]driver{}
	for i, a := range c.acts {
		if !c.isRun(i) {
			continue
		}
		for _, p := range a.drives {
			drivers[placeOf(p)] = append(drivers[placeOf(p)], driver{i, p.Bits})
		}
	}
	list := make([]map[int]bool, len(c.acts))
	for i, a := range c.acts {
		list[i] = map[int]bool{}
		for _, p := range a.reads {
			for _, x := range drivers[placeOf(p)] {
				// A Comb process is not run again because of what it sets itself.
				if x.bits&p.Bits != 0 && (x.proc != i || c.Procs[i].Kind == api.Cont) {
					list[i][x.proc] = true
				}
			}
		}
	}
	return list
}

// loops looks at the processes that come before themselves.
func (c *checker) loops(before []map[int]bool) {
	for i := range before {
		seen := map[int]bool{}
		var follow func(int)
		follow = func(k int) {
			for j := range before[k] {
				if !seen[j] {
					seen[j] = true
					follow(j)
				}
			}
		}
		follow(i)
		if seen[i] {
			c.breaks(Loop, inProc(i), -1)
		}
	}
}

// order returns the processes that settle such that each one stands behind all that come before it, smaller numbers first. There are no loops.
func (c *checker) order(before []map[int]bool) []int {
	var list []int
	done := map[int]bool{}
	for i := c.next(before, done); i >= 0; i = c.next(before, done) {
		list = append(list, i)
		done[i] = true
	}
	return list
}

// next returns the first process that settles, is not done, and has only processes before it that are; -1 if there is none.
func (c *checker) next(before []map[int]bool, done map[int]bool) int {
	for i := range before {
		ready := c.isRun(i) && !done[i]
		for k := range before[i] {
			ready = ready && done[k]
		}
		if ready {
			return i
		}
	}
	return -1
}
