package outline

import (
	"cmp"
	"slices"

	"trellis/api"
	"trellis/place"
)

// foldable: the rows of all nodes that have one of these names and more than one row.
func foldable(names []string, t []api.Node, text string) []api.Fold {
	known := map[string]int{}
	for i, name := range names {
		known[name] = i
	}
	index := place.New(text)
	var out []api.Fold
	for _, n := range t {
		if _, ok := known[n.Name]; !ok || !n.Named {
			continue
		}
		if f := rowsOf(index, n); f.First < f.Last {
			out = append(out, f)
		}
	}
	return out
}

// rowsOf: the rows of a node's first byte and of its last one.
func rowsOf(index *place.Index, n api.Node) api.Fold {
	last := max(n.From, n.To-1) // a node without a byte is where it begins
	return api.Fold{First: index.Pos(n.From).Row, Last: index.Pos(last).Row}
}

// outermost: of the folds with one first row that with the greatest last one, in their order.
func outermost(l []api.Fold) []api.Fold {
	slices.SortFunc(l, func(a, b api.Fold) int {
		return cmp.Or(cmp.Compare(a.First, b.First), cmp.Compare(b.Last, a.Last))
	})
	return slices.CompactFunc(l, func(a, b api.Fold) bool { return a.First == b.First })
}
