package scan

import (
	"strings"

	"trellis/api"
	"trellis/nfa"
	"trellis/state"
)

// scanner makes steps over one text under one valid set. It keeps the machines that it has made: where much is passed over, the same rules are asked at place after place.
type scanner struct {
	rules    []api.Rule
	text     string
	valid    api.Terms
	machines []*api.Nfa // by rule; nil: not made yet
}

// step: the step from a place of the text on, in a shaped state.
func (x *scanner) step(s api.State, at int) api.Step {
	look := at
places:
	for p := at; ; {
		ended := p == len(x.text)
		winner, end := none, none
	rules:
		for i := range x.rules {
			r := &x.rules[i]
			if asksEnd(r) && stands(r, &s, true, x.valid) {
				look = max(look, p+1)
			}
			if !stands(r, &s, ended, x.valid) {
				continue rules
			}
			e, far := x.match(i, &s, p)
			look = max(look, far)
			if e <= end || e == p && r.Term == skipped {
				continue rules
			}
			winner, end = i, e
		}
		if winner == none {
			return x.without(s, p, look)
		}
		r := &x.rules[winner]
		after, code := state.All(s, r.Acts, x.text[p:end])
		if code != api.OK {
			return stop(code, s, p, look, winner)
		}
		if r.Term == skipped {
			s, p = after, end
			continue places
		}
		return api.Step{Term: r.Term, From: p, To: end, Look: look, Rule: winner, After: after}
	}
}

// match: the end of what the rule i matches from a place of the text on, and how far it looks.
func (x *scanner) match(i int, s *api.State, at int) (int, int) {
	switch r := &x.rules[i]; r.Pat {
	case api.PatRegex:
		return nfa.Run(*x.machine(i), x.text, at)
	case api.PatLit:
		return row(x.text, r.Lit, at)
	case api.PatEmpty:
		return at, at
	case api.PatDelim:
		return delim(s, x.text, at)
	case api.PatBody:
		return body(s, x.text, at)
	}
	return none, at
}

func (x *scanner) machine(i int) *api.Nfa {
	if x.machines == nil {
		x.machines = make([]*api.Nfa, len(x.rules))
	}
	if x.machines[i] == nil {
		n := nfa.Compile(x.rules[i].Re)
		x.machines[i] = &n
	}
	return x.machines[i]
}

// without: the step at a place where there is no winner. Whether it is the end is looked at just if the end may come.
func (x *scanner) without(s api.State, p, look int) api.Step {
	code := api.ErrNone
	if x.valid>>theEnd&1 == 1 {
		look = max(look, p+1)
		if p == len(x.text) {
			code = api.OK
		}
	}
	return stop(code, s, p, look, none)
}

// stop: a step without a token.
func stop(code api.Errno, s api.State, p, look, rule int) api.Step {
	return api.Step{Code: code, Term: theEnd, From: p, To: p, Look: look, Rule: rule, After: copied(s)}
}

// copied: the state, shaped or not, in memory of its own.
func copied(s api.State) api.State {
	s.Indents = append([]int(nil), s.Indents...)
	s.Queue = append([]string(nil), s.Queue...)
	for i, d := range s.Queue {
		s.Queue[i] = strings.Clone(d)
	}
	s.Frames = append([]api.Frame(nil), s.Frames...)
	for i, f := range s.Frames {
		s.Frames[i].Delim = strings.Clone(f.Delim)
	}
	return s
}
