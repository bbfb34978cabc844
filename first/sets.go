package first

import "trellis/api"

// set: how what a symbol or a row becomes may begin.
type set struct {
	tokens   api.Terms // those that may stand first
	vanishes bool      // nothing may be left of it
}

// sets: those of all symbols, the tokens first. An array: so it is a value, and two of them are compared as a whole.
type sets [most]set

// settled: the sets are made anew from themselves until they are the same as before. Only what must be in a set is ever put into it, so they are the least ones.
func settled(g api.Gram) sets {
	l := prods(g)
	now := bare(g)
	for {
		next := now.anew(l)
		if next == now {
			return now
		}
		now = next
	}
}

// bare: each token begins itself; nothing else is known yet.
func bare(g api.Gram) sets {
	var out sets
	for t := range g.Terms {
		out[t].tokens = 1 << t
	}
	return out
}

// anew: each set with what its productions say of it.
func (s sets) anew(l []prod) sets {
	for _, p := range l {
		more := s.along(p.row)
		s[p.symbol].tokens |= more.tokens
		s[p.symbol].vanishes = s[p.symbol].vanishes || more.vanishes
	}
	return s
}

// along: the set of a row: a symbol begins it if all ahead of it vanish.
func (s *sets) along(row []int) set {
	var out set
	for _, x := range row {
		out.tokens |= s[x].tokens
		if !s[x].vanishes {
			return out
		}
	}
	out.vanishes = true
	return out
}

// prod: a production as far as it counts here.
type prod struct {
	symbol int
	row    []int
}

// prods: those of all productions that replace a symbol.
func prods(g api.Gram) []prod {
	var out []prod
	for _, p := range g.Prods {
		if p.Lhs >= 0 {
			out = append(out, prod{len(g.Terms) + p.Lhs, opening(g, p.Rhs)})
		}
	}
	return out
}

// opening: the row up to its first token, each symbol once: it begins and vanishes as the whole row does, and is never longer than there are symbols, since it is gone through again and again.
func opening(g api.Gram, row []api.Ref) []int {
	var out []int
	var seen [most]bool
	for _, r := range row {
		if !seen[r.Sym] {
			seen[r.Sym] = true
			out = append(out, r.Sym)
		}
		if r.Sym < len(g.Terms) {
			break
		}
	}
	return out
}
