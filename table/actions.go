package table

import "trellis/api"

const noToken = -1

// actions: by token what is done in the state of that set, from which the tokens lead to the states behind it; the least token on which two unlike things would be done, noToken if there is none.
func actions(g api.Gram, set []api.Item, behind []int) ([]api.Action, int) {
	row := make([]api.Action, len(behind))
	for token, to := range behind {
		if to >= 0 {
			row[token] = api.Action{Kind: api.ActionShift, N: to}
		}
	}
	conflict := noToken
	for _, x := range set {
		if x.Dot < len(g.Prods[x.Prod].Rhs) {
			continue
		}
		a := ended(x.Prod)
		if row[x.Look] != (api.Action{}) && row[x.Look] != a && (conflict == noToken || x.Look < conflict) {
			conflict = x.Look
		}
		row[x.Look] = a
	}
	return row, conflict
}

// ended: what is done with a production all of which has been met.
func ended(prod int) api.Action {
	if prod == 0 {
		return api.Action{Kind: api.ActionAccept}
	}
	return api.Action{Kind: api.ActionReduce, N: prod}
}
