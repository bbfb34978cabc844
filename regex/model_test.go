package regex_test

import (
	"math/rand"
	"slices"

	"trellis/api"
)

// What the tests of this package share: sets and nodes written shortly, and trees made in all ways or at random.

func set(bytes string) api.Class {
	var c api.Class
	for i := range len(bytes) {
		c[bytes[i]/64] |= 1 << (bytes[i] % 64)
	}
	return c
}

func setOf(in func(b int) bool) api.Class {
	var c api.Class
	for b := range 256 {
		if in(b) {
			c[b/64] |= 1 << (b % 64)
		}
	}
	return c
}

func leaf(bytes string) api.ReNode {
	return api.ReNode{Op: api.ReClass, Set: set(bytes), A: -1, B: -1}
}

func empty() api.ReNode { return api.ReNode{Op: api.ReEmpty, A: -1, B: -1} }

func node(op api.ReOp, a, b int) api.ReNode { return api.ReNode{Op: op, A: a, B: b} }

// one: the tree of op and its operand; two: of op and both.
func one(op api.ReOp, a []api.ReNode) []api.ReNode {
	return append(slices.Clone(a), node(op, len(a)-1, -1))
}

func two(op api.ReOp, a, b []api.ReNode) []api.ReNode {
	out := slices.Clone(a)
	for _, n := range b {
		if n.A >= 0 {
			n.A += len(a)
		}
		if n.B >= 0 {
			n.B += len(a)
		}
		out = append(out, n)
	}
	return append(out, node(op, len(a)-1, len(out)-1))
}

// treesOf: by number of nodes up to most, all trees over those leaves.
func treesOf(most int, leaves ...api.ReNode) [][][]api.ReNode {
	all := make([][][]api.ReNode, most+1)
	for _, l := range leaves {
		all[1] = append(all[1], []api.ReNode{l})
	}
	for n := 2; n <= most; n++ {
		for _, a := range all[n-1] {
			all[n] = append(all[n], one(api.ReStar, a), one(api.RePlus, a), one(api.ReOpt, a))
		}
		for k := 1; k < n-1; k++ {
			for _, a := range all[k] {
				for _, b := range all[n-1-k] {
					all[n] = append(all[n], two(api.ReCat, a, b), two(api.ReAlt, a, b))
				}
			}
		}
	}
	return all
}

// randomClass: a class with at least a byte: few ones, many ones, runs.
func randomClass(r *rand.Rand) api.ReNode {
	var c api.Class
	for c == (api.Class{}) {
		switch r.Intn(4) {
		case 0:
			c = set(string([]byte{byte(r.Intn(256))}))
		case 1:
			c = api.Class{r.Uint64(), r.Uint64(), r.Uint64(), r.Uint64()}
		case 2:
			from, to := r.Intn(256), r.Intn(256)
			c = setOf(func(b int) bool { return b >= from && b <= to })
		case 3:
			from, to := r.Intn(256), r.Intn(256)
			c = setOf(func(b int) bool { return b < from || b > to })
		}
	}
	return api.ReNode{Op: api.ReClass, Set: c, A: -1, B: -1}
}

// randomTree: a tree of n nodes.
func randomTree(r *rand.Rand, n int, leaf func() api.ReNode) []api.ReNode {
	switch {
	case n == 1 && r.Intn(8) == 0:
		return []api.ReNode{empty()}
	case n == 1:
		return []api.ReNode{leaf()}
	case n == 2 || r.Intn(4) == 0:
		ops := []api.ReOp{api.ReStar, api.RePlus, api.ReOpt}
		return one(ops[r.Intn(3)], randomTree(r, n-1, leaf))
	}
	k := 1 + r.Intn(n-2)
	ops := []api.ReOp{api.ReCat, api.ReAlt}
	return two(ops[r.Intn(2)], randomTree(r, k, leaf), randomTree(r, n-1-k, leaf))
}
