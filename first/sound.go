package first

import "trellis/api"

// most: no sound grammar has more symbols.
const most = api.MaxTerms + 1 + api.MaxSyms

// symbols: how many a sound grammar has.
func symbols(g api.Gram) int { return len(g.Terms) + len(g.Syms) }

// sound: can all numbers of the grammar be trusted? (Those of a production that replaces nothing, too.)
func sound(g api.Gram) bool {
	if len(g.Terms) < 1 || len(g.Terms) > api.MaxTerms+1 || len(g.Syms) > api.MaxSyms {
		return false
	}
	for _, p := range g.Prods {
		if p.Lhs < -1 || p.Lhs >= len(g.Syms) || !within(g, p.Rhs) {
			return false
		}
	}
	return true
}

// within: are all Refs of the row symbols?
func within(g api.Gram, row []api.Ref) bool {
	for _, r := range row {
		if r.Sym < 0 || r.Sym >= symbols(g) {
			return false
		}
	}
	return true
}
