package table

import "trellis/api"

// head: the bytes with which every image begins.
const head = "T\x01"

// The counts of actions: two kinds have one each, the others take turns from there on.
const (
	countNone   = 0
	countAccept = 1
	firstShift  = 2
	firstReduce = 3
)

// image: that of a shaped table.
func image(t api.Table) []byte {
	out := []byte(head)
	out = appendCount(out, len(t.Actions))
	out = appendCount(out, len(t.Actions[0]))
	out = appendCount(out, len(t.Gotos[0]))
	for _, row := range t.Actions {
		for _, a := range row {
			out = appendCount(out, countOf(a))
		}
	}
	for _, row := range t.Gotos {
		for _, to := range row {
			out = appendCount(out, to+1)
		}
	}
	return out
}

// countOf: an action of a shaped table as a count.
func countOf(a api.Action) int {
	switch a.Kind {
	case api.ActionAccept:
		return countAccept
	case api.ActionShift:
		return firstShift + 2*a.N
	case api.ActionReduce:
		return firstReduce + 2*a.N
	}
	return countNone
}

// actionOf: the action that has the count. Whether a table can have it is not asked.
func actionOf(count int) api.Action {
	switch {
	case count == countNone:
		return api.Action{}
	case count == countAccept:
		return api.Action{Kind: api.ActionAccept}
	case count%2 == firstShift%2:
		return api.Action{Kind: api.ActionShift, N: (count - firstShift) / 2}
	}
	return api.Action{Kind: api.ActionReduce, N: (count - firstReduce) / 2}
}
