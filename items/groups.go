package items

import (
	"cmp"
	"math/bits"
	"slices"

	"trellis/api"
)

// spot: a production and a dot in it.
type spot struct {
	prod, dot int
}

// group: the items of one spot, their Looks together as a set of tokens: what becomes of one of them becomes of all. A set of items is a list of groups that rises by their spots, each with a Look at least.
type group struct {
	spot
	looks api.Terms
}

// gathered: those of the list that are items of the grammar.
func gathered(g api.Gram, l []api.Item) []group {
	var own []group
	for _, x := range l {
		if proper(g, x) {
			own = append(own, group{spot{x.Prod, x.Dot}, 1 << x.Look})
		}
	}
	slices.SortFunc(own, func(a, b group) int {
		return cmp.Or(cmp.Compare(a.prod, b.prod), cmp.Compare(a.dot, b.dot))
	})
	var out []group
	for _, x := range own {
		if last := len(out) - 1; last >= 0 && out[last].spot == x.spot {
			out[last].looks |= x.looks
		} else {
			out = append(out, x)
		}
	}
	return out
}

// listed: the items of the groups, one by one.
func listed(l []group) []api.Item {
	n := 0
	for _, x := range l {
		n += bits.OnesCount64(uint64(x.looks))
	}
	out := make([]api.Item, 0, n)
	for _, x := range l {
		for looks := x.looks; looks != 0; looks &= looks - 1 {
			out = append(out, api.Item{Prod: x.prod, Dot: x.dot, Look: bits.TrailingZeros64(uint64(looks))})
		}
	}
	return out
}
