package parse_test

import (
	"math/rand"
	"slices"
	"testing"

	"trellis/api"
	"trellis/parse"
	"trellis/tree"
)

// someLeaves: tokens with bytes as they come.
func someLeaves(r *rand.Rand, terms []int) []api.Leaf {
	var out []api.Leaf
	for _, t := range terms {
		out = append(out, api.Leaf{Term: t, Pad: pick(r, 0, 0, 1, 3), Len: pick(r, 0, 1, 1, 2)})
	}
	return out
}

func checkFollow(t *testing.T, x tongue, leaves []api.Leaf, want []api.Node, valid api.Terms) {
	t.Helper()
	got, v, ok := parse.Follow(x.lang, leaves)
	if !ok || v != valid || !slices.Equal(got, want) {
		t.Fatalf("16.4: %s: Follow(%+v) = %s %+v, %x, %v, want %s %+v, %x", x.text, leaves, tree.Text(got), got, v, ok, tree.Text(want), want, valid)
	}
}

// checkSentence: all beginnings of a sentence that has been derived, and the whole of it with the end; and what cannot come behind them.
func checkSentence(t *testing.T, x tongue, r *rand.Rand, seen map[string]int) {
	t.Helper()
	g := newGrower(r, x.lang)
	root := g.grow(len(x.lang.Gram.Terms), r.Intn(9))
	leaves := someLeaves(r, g.terms)
	c := x.begin()
	for n := range len(leaves) + 1 {
		valid := x.valid(c)
		want := plainNodes(x.lang, root, leaves, n)
		checkFollow(t, x, leaves[:n], want, valid)
		for term := -1; term < len(x.lang.Gram.Terms)+2; term++ {
			if _, _, ok := parse.Follow(x.lang, append(slices.Clip(leaves[:n]), api.Leaf{Term: term})); ok != (term >= 0 && valid>>term&1 == 1) {
				t.Fatalf("16.4: %s: %d behind %+v: %v", x.text, term, leaves[:n], ok)
			}
		}
		if n < len(leaves) {
			c = x.more(c, leaves[n].Term)
		}
		seen["prefixes"]++
		if len(want) > n {
			seen["parts with inner nodes"]++
		}
	}
	end := api.Leaf{Pad: r.Intn(3), Len: r.Intn(2)}
	want := plainNodes(x.lang, root, leaves, len(leaves)+1)
	checkFollow(t, x, append(slices.Clip(leaves), end), want, 0)
	switch {
	case len(leaves) == 0:
		seen["no tokens"]++
	case len(leaves) > 10:
		seen["long"]++
	}
	if k := tree.Roots(want); k != 1 {
		seen["no tree, or several"]++
	}
	for _, n := range want {
		if n.Field != "" {
			seen["fields"]++
		}
		if n.Leaf < 0 && n.Kids == 0 {
			seen["nodes without a child"]++
		}
		if n.Name == "n" || n.Name == "_m" {
			seen["other names"]++
		}
	}
}

// 16.2, 16.4: the nodes of parts, by derivations.
func TestFollowModel(t *testing.T) {
	r := rand.New(rand.NewSource(164))
	seen := map[string]int{}
	for _, text := range fixed() {
		x := loaded(t, text)
		for range 30 {
			checkSentence(t, x, r, seen)
		}
	}
	for range 2500 {
		x := anyTongue(r)
		for range 6 {
			checkSentence(t, x, r, seen)
		}
	}
	enough(t, 300, seen, "prefixes", "parts with inner nodes", "no tokens", "long", "no tree, or several", "fields", "nodes without a child", "other names")
}
