package outline_test

import (
	"fmt"
	"math/rand"
	"slices"
	"strings"
	"testing"

	"trellis/api"
	"trellis/load"
	"trellis/outline"
)

// What the tests of this package share: the chapter's words told plainly.

// plainTree: a node, and its children.
type plainTree struct {
	node api.Node
	kids []plainTree
}

// plainTrees: the first n trees of a list, and what is left of it; false: there are not so many.
func plainTrees(t []api.Node, n int) ([]plainTree, []api.Node, bool) {
	var out []plainTree
	for range n {
		if len(t) == 0 || t[0].Kids < 0 {
			return nil, nil, false
		}
		kids, left, ok := plainTrees(t[1:], t[0].Kids)
		if !ok {
			return nil, nil, false
		}
		out = append(out, plainTree{t[0], kids})
		t = left
	}
	return out, t, true
}

// plainForest: the trees of a list of nodes over a text; false, if it is no forest, or not all of it is within the text.
func plainForest(t []api.Node, text string) ([]plainTree, bool) {
	for _, n := range t {
		if !(0 <= n.From && n.From <= n.To && n.To <= len(text)) {
			return nil, false
		}
	}
	var out []plainTree
	for len(t) > 0 {
		one, left, ok := plainTrees(t, 1)
		if !ok {
			return nil, false
		}
		out, t = append(out, one...), left
	}
	return out, true
}

// plainRow: the row of a place.
func plainRow(text string, at int) int { return strings.Count(text[:at], "\n") }

// plainRows: the rows of a node.
func plainRows(n api.Node, text string) (int, int) {
	if n.From == n.To {
		return plainRow(text, n.From), plainRow(text, n.From)
	}
	return plainRow(text, n.From), plainRow(text, n.To-1)
}

// plainFolds: by the words of 22.1, row by row.
func plainFolds(names []string, t []api.Node, text string) []api.Fold {
	if _, ok := plainForest(t, text); !ok {
		return nil
	}
	var out []api.Fold
	for row := range plainRow(text, len(text)) + 1 {
		most := row
		for _, n := range t {
			if first, last := plainRows(n, text); n.Named && slices.Contains(names, n.Name) && first == row {
				most = max(most, last)
			}
		}
		if most > row {
			out = append(out, api.Fold{First: row, Last: most})
		}
	}
	return out
}

// plainSymbols: by the words of 22.2, tree by tree; in so many symbols are all of them.
func plainSymbols(marks []api.MarkDef, l []plainTree, text string, depth int) []api.Symbol {
	var out []api.Symbol
	for _, x := range l {
		called, ok := plainCalled(marks, x, text)
		below := depth
		if ok {
			out = append(out, api.Symbol{Name: x.node.Name, Called: called, From: x.node.From, To: x.node.To, Depth: depth})
			below++
		}
		out = append(out, plainSymbols(marks, x.kids, text, below)...)
	}
	return out
}

// plainCalled: what a node is called; false: it is no symbol.
func plainCalled(marks []api.MarkDef, x plainTree, text string) (string, bool) {
	mark := slices.IndexFunc(marks, func(m api.MarkDef) bool { return m.Name == x.node.Name })
	if mark < 0 || !x.node.Named {
		return "", false
	}
	for _, k := range x.kids {
		if k.node.Field == marks[mark].Field {
			return text[k.node.From:k.node.To], true
		}
	}
	return "", false
}

// lang: a language of which all but the folds and marks is no language's.
func lang(folds []string, marks []api.MarkDef) api.Lang {
	return api.Lang{Name: "l", Folds: folds, Marks: marks}
}

// check: what the calls answer, held against the words of 22.1 to 22.4.
func check(t *testing.T, l api.Lang, nodes []api.Node, text string) ([]api.Fold, []api.Symbol) {
	t.Helper()
	folds, symbols := outline.Folds(l, nodes, text), outline.Symbols(l, nodes, text)
	if want := plainFolds(l.Folds, nodes, text); !slices.Equal(folds, want) {
		t.Fatalf("22.1: Folds(%v, %+v, %q) = %v, want %v", l.Folds, nodes, text, folds, want)
	}
	forest, _ := plainForest(nodes, text)
	if want := plainSymbols(l.Marks, forest, text, 0); !slices.Equal(symbols, want) {
		t.Fatalf("22.2: Symbols(%v, %+v, %q) = %v, want %v", l.Marks, nodes, text, symbols, want)
	}
	if !rising(folds, text) {
		t.Fatalf("22.4: Folds(%v, %+v, %q) = %v", l.Folds, nodes, text, folds)
	}
	if !stepwise(symbols) {
		t.Fatalf("22.3: Symbols(%v, %+v, %q) = %v", l.Marks, nodes, text, symbols)
	}
	return folds, symbols
}

// rising: 22.4.
func rising(l []api.Fold, text string) bool {
	rows := strings.Count(text, "\n") + 1
	for i, f := range l {
		if i > 0 && l[i-1].First >= f.First || f.First < 0 || f.Last <= f.First || f.Last >= rows {
			return false
		}
	}
	return true
}

// stepwise: what 22.3 says of depths.
func stepwise(l []api.Symbol) bool {
	above := -1
	for _, s := range l {
		if s.Depth < 0 || s.Depth > above+1 {
			return false
		}
		above = s.Depth
	}
	return true
}

// toldFolds: folds as one text.
func toldFolds(l []api.Fold) string {
	var out []string
	for _, f := range l {
		out = append(out, fmt.Sprintf("%d-%d", f.First, f.Last))
	}
	return strings.Join(out, ", ")
}

// toldSymbols: symbols as one text.
func toldSymbols(l []api.Symbol) string {
	var out []string
	for _, s := range l {
		out = append(out, fmt.Sprintf("%d %s %q %d-%d", s.Depth, s.Name, s.Called, s.From, s.To))
	}
	return strings.Join(out, ", ")
}

func pick[T any](r *rand.Rand, l ...T) T { return l[r.Intn(len(l))] }

func loaded(t *testing.T, text string) api.Lang {
	t.Helper()
	l, fault := load.Load(text)
	if fault != (api.Fault{}) {
		t.Fatalf("%s is no language: %+v", text, fault)
	}
	return l
}

// enough: has each of these kinds come up often enough to tell something?
func enough(t *testing.T, least int, seen map[string]int, kinds ...string) {
	t.Helper()
	for _, k := range kinds {
		if seen[k] < least {
			t.Errorf("only %d of %q: %v", seen[k], k, seen)
		}
	}
}
