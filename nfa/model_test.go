package nfa_test

import (
	"math"
	"math/rand"
	"testing"

	"trellis/api"
	"trellis/nfa"
)

// What the tests of this package share: what a machine means, told plainly, and machines of all kinds.

func class(bytes string) api.Class {
	var c api.Class
	for i := range len(bytes) {
		c[bytes[i]/64] |= 1 << (bytes[i] % 64)
	}
	return c
}

func isState(n api.Nfa, q int) bool { return 0 <= q && q < len(n.On) }

// closed puts in what free goings add: as many rounds as there are states are enough.
func closed(n api.Nfa, in []bool) []bool {
	for range n.On {
		for q, free := range n.Free {
			if !isState(n, q) || !in[q] {
				continue
			}
			for _, r := range free {
				if isState(n, r) {
					in[r] = true
				}
			}
		}
	}
	return in
}

// takes: does the machine take s, by the chapter's words?
func takes(n api.Nfa, s string) bool {
	if !isState(n, n.Start) || !isState(n, n.End) {
		return false
	}
	in := make([]bool, len(n.On))
	in[n.Start] = true
	in = closed(n, in)
	for i := range len(s) {
		next := make([]bool, len(n.On))
		for q, to := range n.To {
			if isState(n, q) && in[q] && n.On[q].Has(s[i]) && isState(n, to) {
				next[to] = true
			}
		}
		in = closed(n, next)
	}
	return in[n.End]
}

// stringsOf: all strings over those bytes of at most n bytes, the shorter ones first.
func stringsOf(over string, n int) []string {
	all := []string{""}
	for from := 0; n > 0; n-- {
		to := len(all)
		for _, s := range all[from:to] {
			for i := range len(over) {
				all = append(all, s+over[i:i+1])
			}
		}
		from = to
	}
	return all
}

// meaning: which strings are taken, and which are open.
type meaning struct{ taken, open map[string]int }

// means tells that of all strings of at most n bytes. The machine has no other bytes, and what is open goes on to something taken within as many bytes as there are states.
func means(n api.Nfa, over string, most int) meaning {
	m := meaning{map[string]int{}, map[string]int{}}
	for _, s := range stringsOf(over, most+len(n.On)) {
		if !takes(n, s) {
			continue
		}
		m.taken[s] = 1
		for i := range len(s) {
			m.open[s[:i]] = 1
		}
	}
	return m
}

// run: what Run must answer of a place within the text.
func (m meaning) run(text string, at int) (int, int) {
	end, far := -1, len(text)+1
	for e := at; e <= len(text); e++ {
		if m.taken[text[at:e]] == 1 {
			end = e
		}
		if m.open[text[at:e]] == 0 && far > e {
			far = e
		}
	}
	return end, far
}

// agrees: 5.2 and 5.3 of a machine and all texts of at most n bytes.
func agrees(t *testing.T, n api.Nfa, over string, most int) {
	t.Helper()
	m := means(n, over, most)
	for _, text := range stringsOf(over, most) {
		if got := nfa.Accepts(n, text); got != (m.taken[text] == 1) {
			t.Fatalf("5.2: Accepts(%+v, %q) = %v", n, text, got)
		}
		for at := range len(text) + 1 {
			end, far := m.run(text, at)
			if e, f := nfa.Run(n, text, at); e != end || f != far {
				t.Fatalf("5.3: Run(%+v, %q, %d) = %d, %d, want %d, %d", n, text, at, e, f, end, far)
			}
		}
	}
}

// randomMachine: of few states, its lists longer and shorter than they should be, its numbers in and out of bounds.
func randomMachine(r *rand.Rand, over string) api.Nfa {
	classes := []api.Class{{}, class(over[:1]), class(over[1:]), class(over), class(over + "\x00\x7f")}
	far := []int{math.MinInt, -1, 4, 5, math.MaxInt, 1 << 32}
	number := func() int {
		if r.Intn(8) == 0 {
			return far[r.Intn(len(far))]
		}
		return r.Intn(4)
	}
	n := api.Nfa{Start: number(), End: number()}
	for range r.Intn(5) {
		n.On = append(n.On, classes[r.Intn(len(classes))])
	}
	for range len(n.On) + r.Intn(3) - 1 {
		n.To = append(n.To, number())
	}
	for range len(n.On) + r.Intn(3) - 1 {
		var free []int
		for range r.Intn(6) / 2 {
			free = append(free, number())
		}
		n.Free = append(n.Free, free)
	}
	return n
}
