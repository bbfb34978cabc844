package items

import "trellis/api"

// symbols: how many a right grammar has.
func symbols(g api.Gram) int { return len(g.Terms) + len(g.Syms) }

// right: can all numbers of the grammar be trusted?
func right(g api.Gram) bool {
	if len(g.Terms) < 1 || len(g.Terms) > api.MaxTerms+1 || len(g.Syms) > api.MaxSyms {
		return false
	}
	if len(g.Prods) < 1 || !starts(g, g.Prods[0]) {
		return false
	}
	for _, p := range g.Prods[1:] {
		if p.Lhs < 0 || p.Lhs >= len(g.Syms) || !within(g, p.Rhs) {
			return false
		}
	}
	return true
}

// starts: is it what production 0 must be? (Without a Sym there is no first one.)
func starts(g api.Gram, p api.Prod) bool {
	return p.Lhs == -1 && len(p.Rhs) == 1 && p.Rhs[0].Sym == len(g.Terms) && len(g.Syms) > 0
}

// within: are all Refs of the row symbols, and none of them the end?
func within(g api.Gram, row []api.Ref) bool {
	for _, r := range row {
		if r.Sym < 1 || r.Sym >= symbols(g) {
			return false
		}
	}
	return true
}

// proper: is it an item of the right grammar?
func proper(g api.Gram, x api.Item) bool {
	return x.Prod >= 0 && x.Prod < len(g.Prods) &&
		x.Dot >= 0 && x.Dot <= len(g.Prods[x.Prod].Rhs) &&
		x.Look >= 0 && x.Look < len(g.Terms)
}
