package scan_test

import (
	"math"
	"math/rand"
	"testing"

	"trellis/api"
	"trellis/scan"
	"trellis/state"
)

func sameApplies(t *testing.T, r api.Rule, s api.State, ended bool, valid api.Terms) bool {
	t.Helper()
	got := scan.Applies(r, s, ended, valid)
	if got != plainApplies(r, s, ended, valid) {
		t.Fatalf("7.1: Applies(%+v, %+v, %v, %x) = %v", r, s, ended, valid, got)
	}
	return got
}

// 7.1: terms of all numbers under all sets of one token, of none and of all others.
func TestAppliesTerms(t *testing.T) {
	odd := []int{math.MinInt, -65, -64, -63, -3, -2, 64, 65, 127, 128, 1 << 32, math.MaxInt}
	for term := -1; term < 64; term++ {
		odd = append(odd, term)
	}
	for _, term := range odd {
		r := api.Rule{Term: term, In: []int{-1}}
		for bit := range 64 {
			sameApplies(t, r, state.Start(), false, 1<<bit)
			sameApplies(t, r, state.Start(), true, ^(1 << bit))
		}
		never, always := sameApplies(t, r, state.Start(), false, 0), sameApplies(t, r, state.Start(), false, all)
		if never != (term == -1) || always != (term == -1 || term >= 1 && term <= 63) {
			t.Errorf("7.1: the term %d: under no token %v, under all %v", term, never, always)
		}
	}
}

// 7.1: modes.
func TestAppliesModes(t *testing.T) {
	states := []api.State{state.Start()}
	for m := range api.MaxModes {
		states = append(states, api.State{Pending: -1, Frames: []api.Frame{{Mode: m}}}, api.State{Pending: -1, Frames: []api.Frame{{Mode: m}, {Mode: (m + 1) % 16, Delim: "x"}}})
	}
	stood := 0
	for _, s := range states {
		for _, in := range [][]int{nil, {}, {-1}, {0}, {15}, {-1, 3}, {3, -1}, {2, 2}, {16}, {-2}, {math.MinInt, math.MaxInt}, {0, 1, 2, 3, 4, 5, 6, 7, 8, 9, 10, 11, 12, 13, 14, 15}} {
			if sameApplies(t, api.Rule{Term: 1, In: in}, s, false, 2) {
				stood++
			}
		}
	}
	if stood == 0 {
		t.Error("7.1: no rule stands in any mode")
	}
}

// 7.1: all pairs of tests, whatever is pending, in front of the end and at it.
func TestAppliesTests(t *testing.T) {
	var tests []api.Test
	for kind := api.TestKind(-1); kind < 11; kind++ {
		for _, n := range []int{-1, 0, 1, 15, 16} {
			if n == 0 || kind == api.TestFlag || kind == api.TestNoFlag {
				tests = append(tests, api.Test{Kind: kind, N: n})
			}
		}
	}
	var states []api.State
	for pending := -2; pending < 5; pending++ {
		for _, indents := range [][]int{nil, {2}, {1, 3}} {
			states = append(states, api.State{Pending: pending, Indents: indents}, api.State{Pending: pending, Indents: indents, Queue: []string{"E"}, Flags: 1 << 15})
		}
	}
	stood := map[bool]int{}
	for _, s := range states {
		for _, ended := range []bool{false, true} {
			sameApplies(t, api.Rule{Term: -1, In: []int{-1}}, s, ended, 0)
			for _, a := range tests {
				sameApplies(t, api.Rule{Term: -1, In: []int{-1}, Tests: []api.Test{a}}, s, ended, 0)
				for _, b := range tests {
					stood[sameApplies(t, api.Rule{Term: -1, In: []int{-1}, Tests: []api.Test{a, b}}, s, ended, 0)]++
				}
			}
		}
	}
	if stood[true] < 500 || stood[false] < 500 {
		t.Errorf("too few of a kind: %v", stood)
	}
}

// 7.1: a state that is not shaped, however good the rule.
func TestAppliesOddStates(t *testing.T) {
	r := rand.New(rand.NewSource(71))
	for range 5000 {
		s := oddState(r)
		rule := api.Rule{Term: -1, In: []int{-1, 0, 1, 2, 3, 16, math.MinInt}}
		if sameApplies(t, rule, s, r.Intn(2) == 0, all) {
			t.Fatalf("7.1: a rule stands in %+v", s)
		}
		sameApplies(t, randomRule(r), s, r.Intn(2) == 0, randomTerms(r))
		sameApplies(t, randomRule(r), randomState(r), r.Intn(2) == 0, randomTerms(r))
	}
}
