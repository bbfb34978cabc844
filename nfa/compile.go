package nfa

import "trellis/api"

// maker makes a machine from its end on: each part of the regex is told the state that comes behind it, and answers the one with which it begins. So a row, and a part that is nothing, need no states, and all others one: with the end no more than the regex has nodes, and one.
type maker struct {
	api.Nfa
	re []api.ReNode
}

func newMaker(re []api.ReNode) *maker {
	most := len(re) + 1
	n := api.Nfa{On: make([]api.Class, 0, most), To: make([]int, 0, most), Free: make([][]int, 0, most)}
	return &maker{n, re}
}

// state: a new state's number.
func (m *maker) state(on api.Class, to int, free ...int) int {
	m.On = append(m.On, on)
	m.To = append(m.To, to)
	m.Free = append(m.Free, free)
	return len(m.On) - 1
}

func (m *maker) part(i, behind int) int {
	switch r := m.re[i]; r.Op {
	case api.ReClass:
		return m.state(r.Set, behind)
	case api.ReCat:
		return m.part(r.A, m.part(r.B, behind))
	case api.ReAlt:
		return m.state(api.Class{}, nowhere, m.part(r.A, behind), m.part(r.B, behind))
	case api.ReOpt:
		return m.state(api.Class{}, nowhere, m.part(r.A, behind), behind)
	case api.ReStar:
		fork, _ := m.ring(r.A, behind)
		return fork
	case api.RePlus:
		_, first := m.ring(r.A, behind)
		return first
	}
	return behind // ReEmpty
}

// ring: a part that may come again: behind it stands a fork, where it begins anew or the ring is left. It answers the fork and the part's first state.
func (m *maker) ring(i, behind int) (fork, first int) {
	fork = m.state(api.Class{}, nowhere)
	first = m.part(i, fork)
	m.Free[fork] = []int{first, behind}
	return fork, first
}
