package query

import (
	"slices"

	"trellis/api"
	"trellis/words"
)

const (
	anyNode = "_" // stands for a node's name, and is none of a field or capture
	none    = -1  // no node's place
)

// bare: a pattern as a list of nodes whose children stand as the pattern's do.
func bare(l []api.PatNode) []api.Node {
	out := make([]api.Node, len(l))
	for at, n := range l {
		out[at].Kids = n.Kids
	}
	return out
}

// captured: the place of the first node that has the capture; none, if it is no node's.
func captured(l []api.PatNode, name string) int {
	if name == "" {
		return none
	}
	return slices.IndexFunc(l, func(n api.PatNode) bool { return n.Capture == name })
}

func nodeShaped(n api.PatNode) bool {
	if !nameOrNothing(n.Field) || !nameOrNothing(n.Capture) {
		return false
	}
	if n.Lit {
		return n.Name != "" && n.Kids == 0
	}
	return nameOrNothing(n.Name)
}

func nameOrNothing(text string) bool {
	return text == "" || text != anyNode && words.Spell(name(text)) != ""
}

func condShaped(l []api.PatNode, c api.Cond) bool {
	if captured(l, c.A) == none {
		return false
	}
	return c.B == "" || c.Text == "" && captured(l, c.B) != none
}
