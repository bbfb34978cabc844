package items

import (
	"trellis/api"
	"trellis/first"
)

// end: the set of the end alone. No right side has the end; so, of what first.Of(g, row, end) answers, the end is a part just if the row vanishes. An opening is such an answer: it tells all that has to be known of a row.
const end api.Terms = 1

// then: what may stand first in a row of that opening, and in what is behind it if the row vanishes; so it is first.Of of the row.
func then(opening, behind api.Terms) api.Terms {
	if opening&end == 0 {
		return opening
	}
	return opening&^end | behind
}

// studied: a right grammar, and what is asked of it for each set anew.
type studied struct {
	api.Gram
	rests  [][]api.Terms // by production and place: the opening of the row behind the symbol there
	brings [][]api.Terms // by Sym and Sym: the openings of all that stands behind the second one where it is the first symbol of a production of the first one
}

// study: the openings of all rows, each from the one behind its first symbol. (Asked one by one, first.Of would go through the whole grammar for each of them.)
func study(g api.Gram) *studied {
	s := &studied{Gram: g, rests: make([][]api.Terms, len(g.Prods)), brings: make([][]api.Terms, len(g.Syms))}
	alone := openings(g)
	for i, p := range g.Prods {
		s.rests[i] = make([]api.Terms, len(p.Rhs))
		behind := end
		for at := len(p.Rhs) - 1; at >= 0; at-- {
			s.rests[i][at] = behind
			behind = then(alone[p.Rhs[at].Sym], behind)
		}
	}
	for i := range s.brings {
		s.brings[i] = make([]api.Terms, len(g.Syms))
	}
	for i, p := range g.Prods[1:] {
		if sym, ok := s.sym(spot{prod: i + 1}); ok {
			s.brings[p.Lhs][sym] |= s.rests[i+1][0]
		}
	}
	return s
}

// openings: by symbol that of the row of it alone.
func openings(g api.Gram) []api.Terms {
	out := first.First(g)
	for i, vanishes := range first.Nullable(g) {
		if vanishes {
			out[i] |= end
		}
	}
	return out
}

// symbol: that behind the dot; false if there is none.
func (s *studied) symbol(at spot) (int, bool) {
	row := s.Prods[at.prod].Rhs
	if at.dot == len(row) {
		return 0, false
	}
	return row[at.dot].Sym, true
}

// sym: the place of the Sym behind the dot; false if there is none.
func (s *studied) sym(at spot) (int, bool) {
	n, ok := s.symbol(at)
	return n - len(s.Terms), ok && n >= len(s.Terms)
}

// closed: the closure.
func (s *studied) closed(l []group) []group {
	looks := s.brought(l)
	var out []group
	for i, p := range s.Prods {
		begun := group{spot: spot{prod: i}}
		if p.Lhs >= 0 {
			begun.looks = looks[p.Lhs]
		}
		if len(l) > 0 && l[0].spot == begun.spot {
			begun.looks |= l[0].looks
			l = l[1:]
		}
		if begun.looks != 0 {
			out = append(out, begun)
		}
		for len(l) > 0 && l[0].prod == i {
			out = append(out, l[0])
			l = l[1:]
		}
	}
	return out
}

// brought: by Sym the Looks with which its productions come in, with the dot at 0. They all come in with the same ones; so it is enough that they grow Sym by Sym.
func (s *studied) brought(l []group) []api.Terms {
	out := make([]api.Terms, len(s.Syms))
	var grown []int
	add := func(sym int, looks api.Terms) {
		if looks&^out[sym] != 0 {
			out[sym] |= looks
			grown = append(grown, sym)
		}
	}
	for _, x := range l {
		if sym, ok := s.sym(x.spot); ok {
			add(sym, then(s.rests[x.prod][x.dot], x.looks))
		}
	}
	for len(grown) > 0 {
		from := grown[len(grown)-1]
		grown = grown[:len(grown)-1]
		for sym, opening := range s.brings[from] {
			add(sym, then(opening, out[from]))
		}
	}
	return out
}

// moved: by symbol the items that have it behind their dot, with the dot behind it.
func (s *studied) moved(l []group) [][]group {
	out := make([][]group, symbols(s.Gram))
	for _, x := range l {
		if n, ok := s.symbol(x.spot); ok {
			x.dot++
			out[n] = append(out[n], x)
		}
	}
	return out
}
