package load

import (
	"slices"

	"trellis/api"
	"trellis/items"
)

// blamed: the place of the rule to which a conflict is laid.
func blamed(g api.Gram, state, token int) int {
	sets, _, _ := items.Sets(g) // not refused: else there would be no conflict
	for _, x := range sets[state] {
		if hasPart(g, x, token) { // a set rises by its productions: this is the least one
			return ruleOf(g, g.Prods[x.Prod].Lhs)
		}
	}
	return 0
}

// hasPart: does the item bring an action on the token?
func hasPart(g api.Gram, x api.Item, token int) bool {
	row := g.Prods[x.Prod].Rhs
	if x.Dot == len(row) {
		return x.Look == token
	}
	return row[x.Dot].Sym == token
}

// ruleOf: the place of the rule to which a production's Lhs belongs. (The rules come first among the Syms, so a rule's place is its Sym's.)
func ruleOf(g api.Gram, lhs int) int {
	for lhs >= 0 && g.Syms[lhs].Kind == api.SymAux {
		lhs = around(g, lhs)
	}
	return max(lhs, 0)
}

// around: the Sym of what is next around the part that an aux one was made of. Beside its own productions an aux one stands in that one's alone.
func around(g api.Gram, aux int) int {
	own := func(r api.Ref) bool { return r.Sym == len(g.Terms)+aux }
	i := slices.IndexFunc(g.Prods, func(p api.Prod) bool { return p.Lhs != aux && slices.ContainsFunc(p.Rhs, own) })
	return g.Prods[max(i, 0)].Lhs
}
