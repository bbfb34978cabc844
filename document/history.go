package document

import (
	"slices"

	"trellis/api"
)

// history: how a document has come to its present version.
type history struct {
	steps  int // how many; the number goes round
	past   recent[string]
	backs  recent[api.Edit] // by edit that can be taken back its inverse
	agains recent[api.Edit] // those that can be done again
}

// left: a step has been made away from a text.
func (h *history) left(text string) {
	h.past.push(text)
	h.steps++
}

// ahead: the text of a version ahead of the present one; false: it is not kept.
func (h *history) ahead(version int) (string, bool) {
	for i, text := range h.past {
		if version == h.steps-len(h.past)+i {
			return text, true
		}
	}
	return "", false
}

// recent: the last ones of what has been pushed, at most MaxHistory.
type recent[T any] []T

func (l *recent[T]) push(x T) {
	if len(*l) == api.MaxHistory {
		*l = slices.Delete(*l, 0, 1)
	}
	*l = append(*l, x)
}

// last: false: there is none.
func (l *recent[T]) last() (T, bool) {
	if len(*l) == 0 {
		var zero T
		return zero, false
	}
	return (*l)[len(*l)-1], true
}

// pop: the last one goes, and is held no longer.
func (l *recent[T]) pop() { *l = slices.Delete(*l, len(*l)-1, len(*l)) }
