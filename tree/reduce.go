package tree

import (
	"strings"

	"trellis/api"
)

func isToken(g api.Gram, sym int) bool { return sym >= 0 && sym < len(g.Terms) }

func isHidden(g api.Gram, sym int) bool {
	return isToken(g, sym) && !g.Terms[sym].Lit && strings.HasPrefix(g.Terms[sym].Name, "_")
}

// isShown: is that the place of a Sym that has a node of its own?
func isShown(g api.Gram, place int) bool {
	return place >= 0 && place < len(g.Syms) && g.Syms[place].Kind == api.SymShown
}

// hasNode: does the symbol have a node of its own, so that an As is another name for that?
func hasNode(g api.Gram, sym int) bool {
	return isToken(g, sym) || sym >= len(g.Terms) && isShown(g, sym-len(g.Terms))
}

// reduced: what a production shows, given as many forests and ends as it asks for.
func reduced(g api.Gram, p api.Prod, kids [][]api.Node, ends []int) []api.Node {
	out := make([]api.Node, 0, room(kids))
	shown := isShown(g, p.Lhs)
	if shown {
		out = append(out, api.Node{}) // made when its children are known
	}
	for i, r := range p.Rhs {
		out = appendPart(out, g, r, kids[i], ends[i+1])
	}
	if shown {
		out[0] = head(g.Syms[p.Lhs].Name, out[1:], ends[len(p.Rhs)])
	}
	return out
}

// room: how many nodes a production shows at most: those of its symbols, one ahead of each of these, and one ahead of all.
func room(kids [][]api.Node) int {
	n := 1
	for _, t := range kids {
		n += len(t) + 1
	}
	return n
}

// appendPart: what a symbol shows in a production, behind what is there. end: where it ends.
func appendPart(out []api.Node, g api.Gram, r api.Ref, kids []api.Node, end int) []api.Node {
	from := len(out)
	switch {
	case r.As == "" && isHidden(g, r.Sym):
		return out
	case r.As == "":
		out = append(out, kids...)
	case hasNode(g, r.Sym):
		out = append(out, kids...)
		callRoots(out[from:], r.As)
	default:
		out = append(out, head(r.As, kids, end))
		out = append(out, kids...)
	}
	if r.Field != "" {
		giveField(out[from:], r.Field)
	}
	return out
}

// head: the node whose children the roots of a forest are; without a root it stands at the end that is told.
func head(name string, t []api.Node, end int) api.Node {
	n := api.Node{Name: name, Named: true, From: end, To: end, Leaf: none}
	if len(t) > 0 {
		n.From = t[0].From
	}
	for at := 0; at < len(t); at = behind(t, at) {
		n.To = t[at].To
		n.Kids++
	}
	return n
}

func callRoots(t []api.Node, name string) {
	for at := 0; at < len(t); at = behind(t, at) {
		t[at].Name, t[at].Named = name, true
	}
}

// giveField: to the roots that have none.
func giveField(t []api.Node, field string) {
	for at := 0; at < len(t); at = behind(t, at) {
		if t[at].Field == "" {
			t[at].Field = field
		}
	}
}
