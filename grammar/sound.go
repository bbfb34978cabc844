package grammar

import "trellis/api"

// tally: what a production has, without its order: a row may be of any length, its tally is not.
type tally struct {
	lhs    int
	tokens int
	syms   [api.MaxSyms]int // by Sym: how often it stands there
}

// tallies: those of all productions of Syms.
func tallies(g api.Gram) []tally {
	var out []tally
	for _, p := range g.Prods[1:] {
		t := tally{lhs: p.Lhs}
		for _, r := range p.Rhs {
			if i := r.Sym - len(g.Terms); i < 0 {
				t.tokens++
			} else {
				t.syms[i]++
			}
		}
		out = append(out, t)
	}
	return out
}

// unsound: a rule that is barren, stray or too hollow.
func (s *study) unsound() api.Flaw {
	l := tallies(s.gram)
	fruitful, reached, hollow := fruitfulSyms(l), reachedSyms(l), hollowSyms(l)
	for i := range s.Rules {
		if !fruitful[i] {
			return api.Flaw{Code: api.ErrBarren, Part: api.PartRule, Index: i, Sub: -1}
		}
	}
	for i := range s.Rules {
		if !reached[i] {
			return api.Flaw{Code: api.ErrStray, Part: api.PartRule, Index: i, Sub: -1}
		}
	}
	least := len(s.Rules)
	for i, owner := range s.owner {
		if hollow[i] {
			least = min(least, owner)
		}
	}
	if least < len(s.Rules) {
		return api.Flaw{Code: api.ErrHollow, Part: api.PartRule, Index: least, Sub: -1}
	}
	return api.Flaw{}
}

// fruitfulSyms: by Sym: does a row of tokens come from it?
func fruitfulSyms(l []tally) [api.MaxSyms]bool {
	var out [api.MaxSyms]bool
	for again := true; again; {
		again = false
		for _, t := range l {
			if !out[t.lhs] && t.within(out) {
				out[t.lhs] = true
				again = true
			}
		}
	}
	return out
}

// within: are all its Syms in the set?
func (t *tally) within(set [api.MaxSyms]bool) bool {
	for i, n := range t.syms {
		if n > 0 && !set[i] {
			return false
		}
	}
	return true
}

// reachedSyms: by Sym: does it come up in what the first one becomes?
func reachedSyms(l []tally) [api.MaxSyms]bool {
	out := [api.MaxSyms]bool{true}
	for again := true; again; {
		before := out
		for _, t := range l {
			if out[t.lhs] {
				for i, n := range t.syms {
					out[i] = out[i] || n > 0
				}
			}
		}
		again = out != before
	}
	return out
}

// tooHeavy stands for every weight above MaxHollow: the real ones may be greater than any number.
const tooHeavy = api.MaxHollow + 1

// weights: by Sym its weight, at most tooHeavy; 0: it has none.
type weights [api.MaxSyms]int

// weigh: each weight is the least that has been seen so far, until none gets less.
func weigh(l []tally) weights {
	var out weights
	for again := true; again; {
		again = false
		for _, t := range l {
			if !t.vanishes(out) {
				continue
			}
			w := min(1+t.weight(out), tooHeavy)
			if out[t.lhs] == 0 || w < out[t.lhs] {
				out[t.lhs] = w
				again = true
			}
		}
	}
	return out
}

// vanishes: have all its symbols a weight?
func (t *tally) vanishes(w weights) bool {
	for i, n := range t.syms {
		if n > 0 && w[i] == 0 {
			return false
		}
	}
	return t.tokens == 0
}

// weight: that of all its symbols together that have one, at most tooHeavy.
func (t *tally) weight(w weights) int {
	sum := 0
	for i, n := range t.syms {
		sum = min(sum+min(n, tooHeavy)*w[i], tooHeavy)
	}
	return sum
}

// hollowSyms: by Sym: is its weight, or what one of its productions weighs, above MaxHollow?
func hollowSyms(l []tally) [api.MaxSyms]bool {
	w := weigh(l)
	var out [api.MaxSyms]bool
	for _, t := range l {
		out[t.lhs] = out[t.lhs] || w[t.lhs] == tooHeavy || t.weight(w) == tooHeavy
	}
	return out
}
