package items_test

import (
	"cmp"
	"math/rand"
	"slices"
	"strconv"
	"strings"

	"trellis/api"
	"trellis/first"
)

// The chapter's words, told plainly: item by item, set by set, and by what comes about from production 0's symbol.

func row(l ...int) []api.Ref {
	var out []api.Ref
	for _, s := range l {
		out = append(out, api.Ref{Sym: s})
	}
	return out
}

func prod(lhs int, l ...int) api.Prod { return api.Prod{Lhs: lhs, Rhs: row(l...)} }

// gram: with so many tokens and Syms; production 0 comes ahead of those that are given.
func gram(tokens, syms int, prods ...api.Prod) api.Gram {
	return api.Gram{Terms: make([]api.TermDef, tokens), Syms: make([]api.Sym, syms), Prods: append([]api.Prod{prod(-1, tokens)}, prods...)}
}

// list: items as the chapter writes them: production.dot/look, blanks between them.
func list(text string) []api.Item {
	var out []api.Item
	for _, w := range strings.Fields(text) {
		spot, look, _ := strings.Cut(w, "/")
		p, d, _ := strings.Cut(spot, ".")
		var x api.Item
		for i, to := range []*int{&x.Prod, &x.Dot, &x.Look} {
			n, err := strconv.Atoi([]string{p, d, look}[i])
			if err != nil {
				panic(text)
			}
			*to = n
		}
		out = append(out, x)
	}
	return out
}

func inOrder(a, b api.Item) int {
	return cmp.Or(cmp.Compare(a.Prod, b.Prod), cmp.Compare(a.Dot, b.Dot), cmp.Compare(a.Look, b.Look))
}

// isSet: does the list rise?
func isSet(l []api.Item) bool {
	for i := range l {
		if i > 0 && inOrder(l[i-1], l[i]) >= 0 {
			return false
		}
	}
	return true
}

// isRight: the chapter's words.
func isRight(g api.Gram) bool {
	t, s := len(g.Terms), len(g.Syms)
	if t == 0 || t > 64 || s > 128 || len(g.Prods) == 0 {
		return false
	}
	for i, p := range g.Prods {
		for _, r := range p.Rhs {
			token, sym := 1 <= r.Sym && r.Sym <= t-1, t <= r.Sym && r.Sym <= t+s-1
			if !token && !sym {
				return false
			}
		}
		if i > 0 && (p.Lhs < 0 || p.Lhs > s-1) {
			return false
		}
	}
	zero := g.Prods[0]
	return zero.Lhs == -1 && len(zero.Rhs) == 1 && zero.Rhs[0].Sym == t
}

// isItem: of a right grammar.
func isItem(g api.Gram, x api.Item) bool {
	return 0 <= x.Prod && x.Prod < len(g.Prods) && 0 <= x.Dot && x.Dot <= len(g.Prods[x.Prod].Rhs) && 0 <= x.Look && x.Look < len(g.Terms)
}

// tokens: those of a set, rising.
func tokens(s api.Terms) []int {
	var out []int
	for t := range 64 {
		if s>>t&1 == 1 {
			out = append(out, t)
		}
	}
	return out
}

// plain: a right grammar that is asked item by item.
type plain struct{ api.Gram }

// after: the row from the dot on.
func (p plain) after(x api.Item) []api.Ref { return p.Prods[x.Prod].Rhs[x.Dot:] }

// sorted: what is in it, as a list that rises.
func sorted(all map[api.Item]bool) []api.Item {
	var out []api.Item
	for x := range all {
		out = append(out, x)
	}
	slices.SortFunc(out, inOrder)
	return out
}

// closure: what each item brings with it, until all of it is there.
func (p plain) closure(l []api.Item) []api.Item {
	all := map[api.Item]bool{}
	var waiting []api.Item
	for _, x := range l {
		if isItem(p.Gram, x) {
			waiting = append(waiting, x)
		}
	}
	for len(waiting) > 0 {
		x := waiting[0]
		waiting = waiting[1:]
		if all[x] {
			continue
		}
		all[x] = true
		row := p.after(x)
		if len(row) == 0 {
			continue
		}
		for i, q := range p.Prods {
			if q.Lhs < 0 || len(p.Terms)+q.Lhs != row[0].Sym {
				continue
			}
			for _, t := range tokens(first.Of(p.Gram, row[1:], 1<<x.Look)) {
				waiting = append(waiting, api.Item{Prod: i, Look: t})
			}
		}
	}
	return sorted(all)
}

func (p plain) behind(l []api.Item, symbol int) []api.Item {
	var out []api.Item
	for _, x := range p.closure(l) {
		if row := p.after(x); len(row) > 0 && row[0].Sym == symbol {
			out = append(out, api.Item{Prod: x.Prod, Dot: x.Dot + 1, Look: x.Look})
		}
	}
	return p.closure(out)
}

// sets: each is held against all so far; false if there are more than most of them.
func (p plain) sets(most int) ([][]api.Item, [][]int, bool) {
	sets := [][]api.Item{p.closure([]api.Item{{}})}
	var gotos [][]int
	for i := 0; i < len(sets); i++ {
		row := []int{-1}
		for symbol := 1; symbol < len(p.Terms)+len(p.Syms); symbol++ {
			next := p.behind(sets[i], symbol)
			n := slices.IndexFunc(sets, func(s []api.Item) bool { return slices.Equal(s, next) })
			if n < 0 && len(next) > 0 {
				n = len(sets)
				sets = append(sets, next)
			}
			row = append(row, n)
		}
		gotos = append(gotos, row)
		if len(sets) > most {
			return nil, nil, false
		}
	}
	return sets, gotos, true
}

// begun: a Sym that stands in the right side that was put in last and is not replaced yet: ahead symbols of the row that is read stand ahead of it; what stands behind it may begin with the tokens behind.
type begun struct {
	ahead, sym int
	behind     api.Terms
}

// meant: the items of the set to which the row leads, by 12.5: by all that comes about from production 0's symbol.
func (p plain) meant(read []api.Ref) []api.Item {
	all := map[api.Item]bool{}
	// stands: the part of the row from there on, as far as it goes, is what begins the right side
	stands := func(from int, part []api.Ref) bool {
		return from+len(part) <= len(read) && slices.Equal(read[from:from+len(part)], part)
	}
	put := func(i, ahead int, behind api.Terms) {
		for dot := range len(p.Prods[i].Rhs) + 1 {
			if ahead+dot == len(read) && stands(ahead, p.Prods[i].Rhs[:dot]) {
				for _, t := range tokens(behind) {
					all[api.Item{Prod: i, Dot: dot, Look: t}] = true
				}
			}
		}
	}
	put(0, 0, 1)
	waiting := []begun{{0, 0, 1}}
	for i := 0; i < len(waiting); i++ {
		b := waiting[i]
		for n, q := range p.Prods {
			if q.Lhs != b.sym {
				continue
			}
			put(n, b.ahead, b.behind)
			for at, r := range q.Rhs {
				next := begun{b.ahead + at, r.Sym - len(p.Terms), first.Of(p.Gram, q.Rhs[at+1:], b.behind)}
				if next.sym >= 0 && stands(b.ahead, q.Rhs[:at]) && !slices.Contains(waiting, next) {
					waiting = append(waiting, next)
				}
			}
		}
	}
	return sorted(all)
}

// lead: the set to which the row leads; -1 if to none.
func lead(gotos [][]int, row []api.Ref) int {
	at := 0
	for _, r := range row {
		if at >= 0 {
			at = gotos[at][r.Sym]
		}
	}
	return at
}

// part: a production that has been met up to its dot since the place from.
type part struct{ prod, dot, from int }

// valid: the valid set behind a row of tokens that is a prefix, by what may stand at each of its places: no sets of items are asked.
func (p plain) valid(read []int) api.Terms {
	at := make([]map[part]bool, len(read)+1)
	var out api.Terms
	for i := range at {
		out = 0
		at[i] = map[part]bool{}
		var waiting []part
		if i == 0 {
			waiting = []part{{}}
		} else {
			for x := range at[i-1] {
				if l := p.Prods[x.prod].Rhs; x.dot < len(l) && l[x.dot].Sym == read[i-1] {
					waiting = append(waiting, part{x.prod, x.dot + 1, x.from})
				}
			}
		}
		for len(waiting) > 0 {
			x := waiting[0]
			waiting = waiting[1:]
			if at[i][x] {
				continue
			}
			at[i][x] = true
			waiting = append(waiting, p.more(at, i, x)...)
		}
		for x := range at[i] {
			if l := p.Prods[x.prod].Rhs; x.dot < len(l) && l[x.dot].Sym < len(p.Terms) {
				out |= 1 << l[x.dot].Sym
			}
		}
		if at[i][part{0, 1, 0}] {
			out |= 1
		}
	}
	return out
}

// more: what x brings at the place i: the productions of the Sym behind its dot (past it, too, if it has been met there already); if it is met as a whole, what has waited for it.
func (p plain) more(at []map[part]bool, i int, x part) []part {
	var out []part
	l := p.Prods[x.prod].Rhs
	if x.dot < len(l) {
		for n, q := range p.Prods {
			if q.Lhs >= 0 && q.Lhs+len(p.Terms) == l[x.dot].Sym {
				out = append(out, part{n, 0, i})
				if at[i][part{n, len(q.Rhs), i}] {
					out = append(out, part{x.prod, x.dot + 1, x.from})
				}
			}
		}
		return out
	}
	if x.prod == 0 {
		return nil
	}
	for y := range at[x.from] {
		if l := p.Prods[y.prod].Rhs; y.dot < len(l) && l[y.dot].Sym == len(p.Terms)+p.Prods[x.prod].Lhs {
			out = append(out, part{y.prod, y.dot + 1, y.from})
		}
	}
	return out
}

// anyRow: a row of up to n symbols, none of them the end.
func anyRow(r *rand.Rand, g api.Gram, n int) []api.Ref {
	var out []api.Ref
	for range r.Intn(n + 1) {
		s := len(g.Terms) + r.Intn(len(g.Syms))
		if len(g.Terms) > 1 && r.Intn(2) == 0 {
			s = 1 + r.Intn(len(g.Terms)-1)
		}
		out = append(out, api.Ref{Sym: s})
	}
	return out
}

// anyGram: a right one, of up to so many tokens, Syms and productions.
func anyGram(r *rand.Rand, tokens, syms, prods int) api.Gram {
	g := gram(1+r.Intn(tokens), 1+r.Intn(syms))
	longest := 1 + r.Intn(4)
	for range r.Intn(prods + 1) {
		g.Prods = append(g.Prods, api.Prod{Lhs: r.Intn(len(g.Syms)), Rhs: anyRow(r, g, longest)})
	}
	return g
}

// fruitful: does every Sym become some row of tokens?
func fruitful(g api.Gram) bool {
	known := make([]bool, len(g.Terms)+len(g.Syms))
	for t := range g.Terms {
		known[t] = true
	}
	for range g.Syms {
		for _, p := range g.Prods[1:] {
			if !slices.ContainsFunc(p.Rhs, func(r api.Ref) bool { return !known[r.Sym] }) {
				known[len(g.Terms)+p.Lhs] = true
			}
		}
	}
	return !slices.Contains(known, false)
}

// anyFruitful: a right grammar, every Sym of which becomes some row.
func anyFruitful(r *rand.Rand, tokens, syms, prods int) api.Gram {
	for {
		if g := anyGram(r, tokens, syms, prods); fruitful(g) {
			return g
		}
	}
}

// anyItems: some items of the grammar, in any order, doubles among them.
func anyItems(r *rand.Rand, g api.Gram, n int) []api.Item {
	var out []api.Item
	for range r.Intn(n + 1) {
		p := r.Intn(len(g.Prods))
		out = append(out, api.Item{Prod: p, Dot: r.Intn(len(g.Prods[p].Rhs) + 1), Look: r.Intn(len(g.Terms))})
		if r.Intn(5) == 0 {
			out = append(out, out[r.Intn(len(out))])
		}
	}
	return out
}
