package first_test

import (
	"math/bits"
	"math/rand"
	"slices"

	"trellis/api"
	"trellis/first"
)

// The chapter's words, told plainly: by what is replaced, without sets that grow.

func row(l ...int) []api.Ref {
	var out []api.Ref
	for _, s := range l {
		out = append(out, api.Ref{Sym: s})
	}
	return out
}

// gram: with so many tokens and Syms.
func gram(tokens, syms int, prods ...api.Prod) api.Gram {
	return api.Gram{Terms: make([]api.TermDef, tokens), Syms: make([]api.Sym, syms), Prods: prods}
}

// symbols: all of them, as rows of one.
func symbols(g api.Gram) [][]api.Ref {
	var out [][]api.Ref
	for i := range len(g.Terms) + len(g.Syms) {
		out = append(out, row(i))
	}
	return out
}

// plain: a grammar that is asked by going through what its symbols become.
type plain struct{ api.Gram }

// rights: what the symbol may be replaced by.
func (p plain) rights(symbol int) [][]api.Ref {
	var out [][]api.Ref
	for _, q := range p.Prods {
		if q.Lhs >= 0 && len(p.Terms)+q.Lhs == symbol {
			out = append(out, q.Rhs)
		}
	}
	return out
}

// vanishes: a row vanishes if each of its symbols does, one if one of its right sides does; where it does so by way of itself, it does so without, too.
func (p plain) vanishes(l []api.Ref, above ...int) bool {
	return !slices.ContainsFunc(l, func(r api.Ref) bool {
		if slices.Contains(above, r.Sym) {
			return true
		}
		return !slices.ContainsFunc(p.rights(r.Sym), func(right []api.Ref) bool {
			return p.vanishes(right, append(slices.Clone(above), r.Sym)...)
		})
	})
}

// begins: the tokens that come to stand first: again and again the first symbol that stays is replaced.
func (p plain) begins(l []api.Ref) api.Terms {
	var out api.Terms
	var met []int
	waiting := [][]api.Ref{l}
	for len(waiting) > 0 {
		l, waiting = waiting[0], waiting[1:]
		for i, r := range l {
			if !p.vanishes(l[:i]) {
				break
			}
			if slices.Contains(met, r.Sym) {
				continue
			}
			met = append(met, r.Sym)
			if r.Sym < len(p.Terms) {
				out |= 1 << r.Sym
			}
			waiting = append(waiting, p.rights(r.Sym)...)
		}
	}
	return out
}

func (p plain) nullable() []bool {
	var out []bool
	for _, s := range symbols(p.Gram) {
		out = append(out, p.vanishes(s))
	}
	return out
}

func (p plain) first() []api.Terms {
	var out []api.Terms
	for _, s := range symbols(p.Gram) {
		out = append(out, p.begins(s))
	}
	return out
}

func (p plain) of(l []api.Ref, behind api.Terms) api.Terms {
	if p.vanishes(l) {
		return p.begins(l) | behind
	}
	return p.begins(l)
}

// given: sets and truths that somebody gives to the symbols (11.5).
type given struct {
	tokens   []api.Terms
	vanishes []bool
}

// answered: those of our calls.
func answered(g api.Gram) given { return given{first.First(g), first.Nullable(g)} }

// along: worked along a row from the left.
func (s given) along(l []api.Ref) (api.Terms, bool) {
	var out api.Terms
	for _, r := range l {
		out |= s.tokens[r.Sym]
		if !s.vanishes[r.Sym] {
			return out, false
		}
	}
	return out, true
}

// closed: have the tokens at least themselves, and does 11.4 hold?
func (s given) closed(g api.Gram) bool {
	for t := range g.Terms {
		if s.tokens[t]&(1<<t) == 0 {
			return false
		}
	}
	for _, p := range g.Prods {
		if p.Lhs < 0 {
			continue
		}
		x := len(g.Terms) + p.Lhs
		if tokens, gone := s.along(p.Rhs); tokens&^s.tokens[x] != 0 || gone && !s.vanishes[x] {
			return false
		}
	}
	return true
}

// holds: has it at least the other?
func (s given) holds(o given) bool {
	for i := range s.tokens {
		if o.tokens[i]&^s.tokens[i] != 0 || o.vanishes[i] && !s.vanishes[i] {
			return false
		}
	}
	return true
}

// anyRow: a row of up to n symbols.
func anyRow(r *rand.Rand, g api.Gram, n int) []api.Ref {
	var out []api.Ref
	for range r.Intn(n + 1) {
		s := r.Intn(len(g.Terms) + len(g.Syms))
		if len(g.Syms) > 0 && r.Intn(2) == 0 {
			s = len(g.Terms) + r.Intn(len(g.Syms))
		}
		out = append(out, api.Ref{Sym: s, Field: "f", As: "n"})
	}
	return out
}

// anyGram: a sound one, of up to so many tokens, Syms and productions.
func anyGram(r *rand.Rand, tokens, syms, prods int) api.Gram {
	g := gram(1+r.Intn(tokens), r.Intn(syms+1))
	longest := 1 + r.Intn(4)
	for range r.Intn(prods + 1) {
		p := api.Prod{Lhs: r.Intn(len(g.Syms)+1) - 1, Rhs: anyRow(r, g, longest)}
		if r.Intn(12) == 0 {
			p.Lhs = -1
		}
		g.Prods = append(g.Prods, p)
	}
	return g
}

// anyTerms: with few bits, many, or all.
func anyTerms(r *rand.Rand) api.Terms {
	switch r.Intn(4) {
	case 0:
		return 0
	case 1:
		return api.Terms(1) << r.Intn(64)
	case 2:
		return ^api.Terms(0)
	}
	return api.Terms(r.Uint64())
}

// size: how many tokens are in the set.
func size(s api.Terms) int { return bits.OnesCount64(uint64(s)) }
