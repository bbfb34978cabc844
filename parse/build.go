package parse

import (
	"slices"

	"trellis/api"
	"trellis/tree"
)

// none: no node's place, and no leaf's.
const none = -1

// builder: the parts so far, as a stack. To a production all that a symbol shows is one node, whatever is below it: tree.Reduce changes roots alone, and all roots of a symbol alike. So a part is a node at most: a token's, or a stub, which stands for other nodes. Else what has been made would be copied for each production above it.
type builder struct {
	lang   api.Lang
	syms   []int
	nodes  [][]api.Node // by part one node, or none
	ends   []int        // where the parts end; ahead of them all the text's beginning
	boughs []bough
}

// bough: nodes beside one another for which a stub stands: as their parent, or as a bundle, which is no node of the tree; to give a bundle a field is to give it to them.
type bough struct {
	nodes  []api.Node
	bundle bool
}

func newBuilder(l api.Lang) builder { return builder{lang: l, ends: []int{0}} }

func (b *builder) push(sym int, l []api.Node, end int) {
	b.syms, b.nodes, b.ends = append(b.syms, sym), append(b.nodes, l), append(b.ends, end)
}

// shift: a token is the last part.
func (b *builder) shift(term, leaf, from, to int) {
	b.push(term, tree.Token(b.lang, term, leaf, from, to), to)
}

// reduce: as many of the last parts as the production has symbols become one.
func (b *builder) reduce(prod int, p api.Prod) {
	first := len(b.syms) - len(p.Rhs)
	l := tree.Reduce(b.lang, prod, b.nodes[first:], b.ends[first:])
	end := b.ends[len(b.syms)]
	b.syms, b.nodes, b.ends = b.syms[:first], b.nodes[:first], b.ends[:first+1]
	b.push(len(b.lang.Gram.Terms)+p.Lhs, b.bundled(b.folded(l)), end)
}

// folded: the roots of a forest, stubs for those that have children.
func (b *builder) folded(l []api.Node) []api.Node {
	first := len(l) // where the roots of what stands behind the place have been moved to
	for at := len(l) - 1; at >= 0; at-- {
		n := l[at]
		if n.Kids > 0 {
			behind := first + n.Kids
			n.Leaf = b.stub(bough{nodes: slices.Clone(l[first:behind])})
			n.Kids, first = 0, behind
		}
		first--
		l[first] = n
	}
	return l[first:]
}

// bundled: the nodes as one, if they are more.
func (b *builder) bundled(l []api.Node) []api.Node {
	if len(l) < 2 {
		return l
	}
	n := api.Node{From: l[0].From, To: l[len(l)-1].To}
	n.Leaf = b.stub(bough{l, true})
	return []api.Node{n}
}

// stub: what a stub for these nodes has as its Leaf. No token has that, nor a node without children.
func (b *builder) stub(x bough) int {
	b.boughs = append(b.boughs, x)
	return none - len(b.boughs)
}

// behind: that for which a node stands; false: the node is no stub.
func (b *builder) behind(n api.Node) (bough, bool) {
	if n.Leaf >= none {
		return bough{}, false
	}
	return b.boughs[none-n.Leaf-1], true
}

// shown: what is shown of the parts, each by itself.
func (b *builder) shown() []api.Node {
	var l []api.Node
	for i, sym := range b.syms {
		l = append(l, tree.Show(b.lang, sym, b.nodes[i])...)
	}
	return b.grown(l)
}
