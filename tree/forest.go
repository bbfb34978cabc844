package tree

import "trellis/api"

func allForests(l [][]api.Node) bool {
	for _, t := range l {
		if Roots(t) < 0 {
			return false
		}
	}
	return true
}

// stands: is that the place of a node of a forest?
func stands(t []api.Node, at int) bool { return at >= 0 && at < len(t) && Roots(t) >= 0 }

// behind: the place behind the subtree that begins at a place of a forest.
func behind(t []api.Node, at int) int {
	for owed := 1; owed > 0; at++ {
		owed += t[at].Kids - 1
	}
	return at
}

// knot: what a node is tied to.
type knot struct {
	parent int // none of a root
	behind int // the place behind the node's subtree
}

// knots: those of a forest, node by node.
type knots []knot

// tied: the knots of a list; none of one that is no forest.
func tied(t []api.Node) knots {
	if Roots(t) < 0 {
		return nil
	}
	out := make(knots, len(t))
	for at := len(t) - 1; at >= 0; at-- {
		kid := at + 1
		for range t[at].Kids {
			out[kid].parent = at
			kid = out[kid].behind
		}
		out[at] = knot{parent: none, behind: kid}
	}
	return out
}

func (l knots) has(at int) bool { return at >= 0 && at < len(l) }

// root: the place of the first root, if there is one.
func (l knots) root() int {
	if !l.has(0) {
		return none
	}
	return 0
}

// below: the place of a node's first child, if there is one.
func (l knots) below(at int) int {
	if !l.has(at) || l[at].behind == at+1 {
		return none
	}
	return at + 1
}

// beside: the place of the next node that has the same parent, if there is one.
func (l knots) beside(at int) int {
	if !l.has(at) {
		return none
	}
	next := l[at].behind
	if !l.has(next) || l[next].parent != l[at].parent {
		return none
	}
	return next
}

// above: the place of a node's parent, if there is one.
func (l knots) above(at int) int {
	if !l.has(at) {
		return none
	}
	return l[at].parent
}
