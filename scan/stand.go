package scan

import (
	"slices"

	"trellis/api"
	"trellis/state"
)

const (
	none    = -1 // no place, no rule, no mode, nothing pending
	skipped = -1 // the Term of a rule whose matches are passed over
	theEnd  = 0  // the Term of the end
)

// stands: Applies, of a state that is shaped.
func stands(r *api.Rule, s *api.State, ended bool, valid api.Terms) bool {
	if !wanted(r.Term, valid) || !slices.Contains(r.In, mode(s)) {
		return false
	}
	settled := s.Pending == none
	for _, t := range r.Tests {
		if !state.Holds(*s, t, ended) {
			return false
		}
		if t.Kind == api.TestDeeper || t.Kind == api.TestShallower {
			settled = true // the rule is there for what is pending
		}
	}
	return settled
}

// wanted: may the rule's token come, or is it passed over? The end is no rule's.
func wanted(term int, valid api.Terms) bool {
	return term == skipped || 0 < term && term <= api.MaxTerms && valid>>term&1 == 1
}

// mode: the top frame's.
func mode(s *api.State) int {
	if len(s.Frames) == 0 {
		return none
	}
	return s.Frames[len(s.Frames)-1].Mode
}

func asksEnd(r *api.Rule) bool {
	return slices.ContainsFunc(r.Tests, func(t api.Test) bool { return t.Kind == api.TestEnded })
}
