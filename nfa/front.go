package nfa

import "trellis/api"

// front: the states to which what has been read leads, and from which the end can be come to. However many ways lead to a state, it stands there once: so a byte costs no more than a look at each state.
type front struct {
	*machine
	live    []bool
	states  []int
	before  []int     // the states ahead of the byte that was read last
	further api.Class // the bytes with which something longer goes on that the machine takes
	count   int       // which front it is, from 1 on
	seen    []int     // by state: the last front in which it stood
}

func newFront(m *machine) *front {
	all := len(m.On)
	f := &front{machine: m, live: m.living(), count: 1, seen: make([]int, all)}
	f.states, f.before = make([]int, 0, all), make([]int, 0, all)
	f.enter(m.Start)
	f.spread()
	return f
}

// whole: does the machine take what has been read?
func (f *front) whole() bool { return f.seen[f.End] == f.count }

// open: does it take something longer?
func (f *front) open() bool { return f.further != api.Class{} }

func (f *front) read(b byte) {
	f.states, f.before = f.before[:0], f.states
	f.count++
	for _, q := range f.before {
		if on, to := f.onBytes(q); on.Has(b) {
			f.enter(to)
		}
	}
	f.spread()
}

func (f *front) enter(q int) {
	if f.live[q] && f.seen[q] != f.count {
		f.seen[q] = f.count
		f.states = append(f.states, q)
	}
}

// spread puts in the states to which those of the front go freely; the list grows while it is gone through.
func (f *front) spread() {
	f.further = api.Class{}
	for i := 0; i < len(f.states); i++ {
		q := f.states[i]
		for _, to := range f.freely(q) {
			if f.has(to) {
				f.enter(to)
			}
		}
		if on, to := f.onBytes(q); to != nowhere && f.live[to] {
			f.further = join(f.further, on)
		}
	}
}

func join(c, d api.Class) api.Class {
	for i, w := range d {
		c[i] |= w
	}
	return c
}
