package defn

import (
	"slices"

	"trellis/api"
)

// How tightly a node binds: the alternatives most weakly.
const (
	bindAlt = iota
	bindSeq
	bindMany
	bindAtom
)

func binds(op api.GOp) int {
	switch op {
	case api.GAlt:
		return bindAlt
	case api.GSeq:
		return bindSeq
	case api.GStar, api.GPlus, api.GOpt, api.GField:
		return bindMany
	}
	return bindAtom
}

// piece: what is to be written: a word, or, if that is of no kind, the node at a place.
type piece struct {
	word api.Word
	node int
}

func said(l ...api.Word) []piece {
	var out []piece
	for _, w := range l {
		out = append(out, piece{word: w})
	}
	return out
}

// exprWords: a tree's words; false: more than MaxNest brackets are open somewhere. What is left to be written is kept in a list, the next one last, since a tree may be as deep as it likes.
func exprWords(t []api.GNode) ([]api.Word, bool) {
	var out []api.Word
	left := []piece{{node: len(t) - 1}}
	for open := 0; len(left) > 0; {
		next := left[len(left)-1]
		left = left[:len(left)-1]
		switch next.word {
		case api.Word{}:
			parts := partsOf(t, t[next.node])
			slices.Reverse(parts)
			left = append(left, parts...)
			continue
		case sign("("):
			open++
		case sign(")"):
			open--
		}
		if open > api.MaxNest {
			return nil, false
		}
		out = append(out, next.word)
	}
	return out, true
}

// partsOf: a node's words and operands, in their order.
func partsOf(t []api.GNode, n api.GNode) []piece {
	switch n.Op {
	case api.GName:
		return said(name(n.Text))
	case api.GLit:
		return said(quote(n.Text))
	case api.GEmpty:
		return said(sign("("), sign(")"))
	case api.GAlt:
		return slices.Concat(operand(t, n.A, bindAlt), said(sign("|")), operand(t, n.B, bindSeq))
	case api.GSeq:
		return slices.Concat(operand(t, n.A, bindSeq), operand(t, n.B, bindMany))
	case api.GField:
		return slices.Concat(said(name(n.Text), sign(":")), operand(t, n.A, bindAtom))
	case api.GAs:
		return slices.Concat(operand(t, n.A, bindAtom), said(sign("@"), name(n.Text)))
	}
	return slices.Concat(operand(t, n.A, bindMany), said(repeatSign(n.Op)))
}

func repeatSign(op api.GOp) api.Word {
	i := int(op - api.GStar)
	return sign(repeatSigns[i : i+1])
}

// operand: a node, in brackets if it binds more weakly than it must.
func operand(t []api.GNode, i, must int) []piece {
	out := []piece{{node: i}}
	if binds(t[i].Op) < must {
		out = slices.Concat(said(sign("(")), out, said(sign(")")))
	}
	return out
}
