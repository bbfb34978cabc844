package query

import "trellis/api"

// claim: a condition, its captures told by the places of the pattern's nodes that have them.
type claim struct {
	not  bool
	a, b int // b is none, if it is text that a is held against
	text string
}

func claims(q api.Query) []claim {
	var out []claim
	for _, c := range q.Conds {
		out = append(out, claim{c.Not, captured(q.Nodes, c.A), captured(q.Nodes, c.B), c.Text})
	}
	return out
}

// hold: is all that the conditions say so of what has been found?
func (s *search) hold() bool {
	for _, c := range s.claims {
		other := c.text
		if c.b != none {
			other = s.bytes(c.b)
		}
		if (s.bytes(c.a) == other) == c.not {
			return false
		}
	}
	return true
}

// bytes: those of the node at which the pattern's node p has been found, as far as the text has some.
func (s *search) bytes(p int) string {
	n := s.nodes[s.found[p]]
	from, to := max(n.From, 0), min(n.To, len(s.text))
	if from >= to {
		return ""
	}
	return s.text[from:to]
}
