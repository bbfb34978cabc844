package parse

import (
	"trellis/api"
	"trellis/table"
)

// patience: how many reductions a language may ask for on one token without getting lower on the stack than it has been. What lies lowest becomes one symbol after the other, none of them twice; then the token's own symbol begins within others, none of them twice; and in each of all these productions stand no more than MaxHollow symbols that become nothing. What asks for more is no language, and may ask for ever.
const patience = 2 * api.MaxSyms * (api.MaxHollow + 1)

// walk: the table's states one behind the other, and what is built of the tokens that lead there.
type walk struct {
	builder
	states []int // one more than there are parts
}

func newWalk(l api.Lang) walk { return walk{newBuilder(l), []int{0}} }

func (w *walk) top() int { return w.states[len(w.states)-1] }

// valid: the valid set behind the tokens so far.
func (w *walk) valid() api.Terms { return table.Valid(w.lang.Table, w.top()) }

// take: does the token come behind those so far? What ends ahead of it is put together; then it is the last part itself, or all is accepted.
func (w *walk) take(term, leaf, from, to int) bool {
	low := len(w.states)
	for idle := 0; idle < patience; idle++ {
		a, _ := cell(w.lang.Table.Actions, w.top(), term)
		switch a.Kind {
		case api.ActionShift:
			w.states = append(w.states, a.N)
			w.shift(term, leaf, from, to)
			return true
		case api.ActionReduce:
			if !w.back(a.N) {
				return false
			}
		default:
			return a.Kind == api.ActionAccept
		}
		if len(w.states) < low {
			low, idle = len(w.states), 0
		}
	}
	return false
}

// back: the walk goes back over a production's symbols, and on over what they are together; false: that is no way.
func (w *walk) back(prod int) bool {
	prods := w.lang.Gram.Prods
	if prod < 0 || prod >= len(prods) || len(prods[prod].Rhs) >= len(w.states) {
		return false
	}
	p := prods[prod]
	w.states = w.states[:len(w.states)-len(p.Rhs)]
	to, ok := cell(w.lang.Table.Gotos, w.top(), p.Lhs)
	w.states = append(w.states, to)
	w.reduce(prod, p)
	return ok
}

// cell: what stands in a table's row i at the place j; false: there is no such place.
func cell[T any](rows [][]T, i, j int) (T, bool) {
	if i < 0 || i >= len(rows) || j < 0 || j >= len(rows[i]) {
		var zero T
		return zero, false
	}
	return rows[i][j], true
}
