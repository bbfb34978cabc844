package query

import (
	"trellis/api"
	"trellis/tree"
)

// search: a query, and a forest over a text; and where the pattern's nodes have been found last.
type search struct {
	pattern []api.PatNode
	parts   [][]int // by node of the pattern its children
	claims  []claim
	nodes   []api.Node
	behind  []int // by node of the forest the place behind its subtree
	text    string
	found   []int // by node of the pattern a node of the forest
}

func newSearch(q api.Query, t []api.Node, text string) *search {
	return &search{q.Nodes, parts(q.Nodes), claims(q), t, subtreeEnds(t), text, make([]int, len(q.Nodes))}
}

// parts: by node of a pattern its children.
func parts(l []api.PatNode) [][]int {
	var out [][]int
	shape := bare(l)
	for at := range shape {
		out = append(out, tree.Kids(shape, at))
	}
	return out
}

// subtreeEnds: by node the place behind its subtree, made once: tree.Kids goes over the whole list for each node, and a forest may be large.
func subtreeEnds(t []api.Node) []int {
	out := make([]int, len(t))
	for at := len(t) - 1; at >= 0; at-- {
		next := at + 1
		for range t[at].Kids {
			next = out[next]
		}
		out[at] = next
	}
	return out
}

// fits: does the pattern's node p fit the forest's node v? Then both, and what is below them, stand in found.
func (s *search) fits(p, v int) bool {
	if !alike(s.pattern[p], s.nodes[v]) {
		return false
	}
	s.found[p] = v
	return len(s.parts[p]) == 0 || s.children(p, v)
}

// alike: does the one fit the other, but for their children?
func alike(p api.PatNode, v api.Node) bool {
	if p.Field != "" && p.Field != v.Field {
		return false
	}
	if p.Lit {
		return !v.Named && p.Name == v.Name
	}
	return p.Name == "" || v.Named && p.Name == v.Name
}

// children: are those of the pattern's node p found among those of the node v? Each of v's is asked at most once, since a choice is never taken back.
func (s *search) children(p, v int) bool {
	left := s.parts[p]
	next, end := v+1, s.behind[v]
	var goOn func() bool
	goOn = func() bool {
		if len(left) == 0 {
			return true
		}
		for next < end {
			at := next
			next = s.behind[at]
			if s.fits(left[0], at) {
				left = left[1:]
				return goOn()
			}
		}
		return false
	}
	return goOn()
}
