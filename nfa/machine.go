package nfa

import (
	"iter"

	"trellis/api"
)

// nowhere: what stands for the state to which none goes: no state has that number.
const nowhere = -1

// machine: any api.Nfa, asked so that what has no meaning in it does not count.
type machine struct{ api.Nfa }

// has: is q a state?
func (m *machine) has(q int) bool { return q >= 0 && q < len(m.On) }

// onBytes: the bytes on which the state q goes, and where to.
func (m *machine) onBytes(q int) (api.Class, int) {
	if q < len(m.To) && m.has(m.To[q]) && m.On[q] != (api.Class{}) {
		return m.On[q], m.To[q]
	}
	return api.Class{}, nowhere
}

// freely: where the state q goes freely; what is no state is in it too.
func (m *machine) freely(q int) []int {
	if q < len(m.Free) {
		return m.Free[q]
	}
	return nil
}

// next: the states to which q goes, on a byte or freely.
func (m *machine) next(q int) iter.Seq[int] {
	return func(yield func(int) bool) {
		if _, to := m.onBytes(q); to != nowhere && !yield(to) {
			return
		}
		for _, to := range m.freely(q) {
			if m.has(to) && !yield(to) {
				return
			}
		}
	}
}

// living: by state, whether some text leads from it to the end, which must be a state. Each state is asked once: where none of those to which it goes is known to live, it waits at all of them. (Compile numbers the states from the end on, and there none has to wait.)
func (m *machine) living() []bool {
	live := make([]bool, len(m.On))
	live[m.End] = true
	waiting := map[int][]int{}
	for q := range m.On {
		if live[q] {
			continue
		}
		if m.meets(q, live) {
			wake(q, live, waiting)
			continue
		}
		for to := range m.next(q) {
			waiting[to] = append(waiting[to], q)
		}
	}
	return live
}

// meets: does the state q go to one that is known to live?
func (m *machine) meets(q int, live []bool) bool {
	for to := range m.next(q) {
		if live[to] {
			return true
		}
	}
	return false
}

// wake: the state q lives, and so do those that wait at it, and those at them.
func wake(q int, live []bool, waiting map[int][]int) {
	live[q] = true
	for woken := []int{q}; len(woken) > 0; {
		last := len(woken) - 1
		at := woken[last]
		woken = woken[:last]
		for _, w := range waiting[at] {
			if !live[w] {
				live[w] = true
				woken = append(woken, w)
			}
		}
	}
}
