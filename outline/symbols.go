package outline

import (
	"strings"

	"trellis/api"
)

// none: no node's place.
const none = -1

// search: trees over a text in which nodes are looked for that are called something.
type search struct {
	marks  []api.MarkDef
	lines  map[string]int // by name the mark that counts
	nodes  []api.Node
	behind []int  // by node the place behind its subtree
	text   string // a copy, of which the answer has pieces: what nested symbols are called may overlap, and be far more than the text in all
}

func newSearch(marks []api.MarkDef, t []api.Node, text string) *search {
	return &search{marks, byName(marks), t, subtreeEnds(t), strings.Clone(text)}
}

// byName: by name the first mark that has it.
func byName(marks []api.MarkDef) map[string]int {
	out := map[string]int{}
	for i, m := range marks {
		if _, ok := out[m.Name]; !ok {
			out[m.Name] = i
		}
	}
	return out
}

// subtreeEnds: by node the place behind its subtree, made once: tree.Kids and tree.Size go over the whole list for each node.
func subtreeEnds(t []api.Node) []int {
	out := make([]int, len(t))
	for at := len(t) - 1; at >= 0; at-- {
		next := at + 1
		for range t[at].Kids {
			next = out[next]
		}
		out[at] = next
	}
	return out
}

// symbols: those of all nodes, in their order.
func (s *search) symbols() []api.Symbol {
	var out []api.Symbol
	var open []int // where the subtrees of the symbols end that the node is in
	for at, n := range s.nodes {
		for len(open) > 0 && open[len(open)-1] <= at {
			open = open[:len(open)-1]
		}
		kid := s.caller(at)
		if kid == none {
			continue
		}
		called := s.text[s.nodes[kid].From:s.nodes[kid].To]
		out = append(out, api.Symbol{Name: strings.Clone(n.Name), Called: called, From: n.From, To: n.To, Depth: len(open)})
		open = append(open, s.behind[at])
	}
	return out
}

// caller: the place of the child that tells what a node is called; none, if the node is no symbol.
func (s *search) caller(at int) int {
	line, ok := s.lines[s.nodes[at].Name]
	if !ok || !s.nodes[at].Named {
		return none
	}
	field := s.marks[line].Field
	return s.kid(at, func(n api.Node) bool { return n.Field == field })
}

// kid: the place of a node's first child that is wanted.
func (s *search) kid(at int, wanted func(api.Node) bool) int {
	for kid := at + 1; kid < s.behind[at]; kid = s.behind[kid] {
		if wanted(s.nodes[kid]) {
			return kid
		}
	}
	return none
}
