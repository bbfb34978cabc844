package table

import "trellis/api"

// mostTokens: the end is one too.
const mostTokens = api.MaxTerms + 1

// shaped: can the table have an image?
func shaped(t api.Table) bool {
	states := len(t.Actions)
	if states < 1 || states > api.MaxStates || len(t.Gotos) != states {
		return false
	}
	tokens, syms := len(t.Actions[0]), len(t.Gotos[0])
	if tokens < 1 || tokens > mostTokens || syms > api.MaxSyms {
		return false
	}
	for i := range states {
		if len(t.Actions[i]) != tokens || len(t.Gotos[i]) != syms {
			return false
		}
		for _, a := range t.Actions[i] {
			if !mayDo(a, states) {
				return false
			}
		}
		for _, to := range t.Gotos[i] {
			if to < -1 || to >= states {
				return false
			}
		}
	}
	return true
}

// mayDo: can a table of so many states have the action?
func mayDo(a api.Action, states int) bool {
	switch a.Kind {
	case api.ActionNone, api.ActionAccept:
		return a.N == 0
	case api.ActionShift:
		return a.N >= 0 && a.N < states
	case api.ActionReduce:
		return a.N >= 0 && a.N < api.MaxProds
	}
	return false
}
