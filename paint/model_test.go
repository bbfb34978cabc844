package paint_test

import (
	"math/rand"
	"slices"
	"testing"

	"trellis/api"
	"trellis/load"
	"trellis/paint"
)

// What the tests of this package share: the chapter's words told plainly.

// plainTree: a node, and its children.
type plainTree struct {
	node api.Node
	kids []plainTree
}

// plainTrees: the first n trees of a list, and what is left of it; false: there are not so many.
func plainTrees(t []api.Node, n int) ([]plainTree, []api.Node, bool) {
	var out []plainTree
	for range n {
		if len(t) == 0 || t[0].Kids < 0 {
			return nil, nil, false
		}
		kids, left, ok := plainTrees(t[1:], t[0].Kids)
		if !ok {
			return nil, nil, false
		}
		out = append(out, plainTree{t[0], kids})
		t = left
	}
	return out, t, true
}

// plainForest: the trees of a list of nodes; none, if it is no forest.
func plainForest(t []api.Node) []plainTree {
	var out []plainTree
	for len(t) > 0 {
		one, left, ok := plainTrees(t, 1)
		if !ok {
			return nil
		}
		out, t = append(out, one...), left
	}
	return out
}

// plainPath: the names of a byte's path, from the outermost on.
func plainPath(l []plainTree, at int) []string {
	for _, x := range l {
		if x.node.From <= at && x.node.To > at {
			return append([]string{x.node.Name}, plainPath(x.kids, at)...)
		}
	}
	return nil
}

// plainOf: what the paint lines say of a row of names, from the outermost on.
func plainOf(paints []api.PaintDef, names []string) string {
	for _, name := range slices.Backward(names) {
		for _, p := range paints {
			if p.Name == name {
				return p.Class
			}
		}
	}
	return ""
}

// plainClass: by the words of 21.1.
func plainClass(paints []api.PaintDef, l []plainTree, at int) string {
	if at < 0 {
		return ""
	}
	return plainOf(paints, plainPath(l, at))
}

// plainPlaces: 0 and all places of the nodes from there on: between two that follow one another all bytes have the same nodes around them.
func plainPlaces(t []api.Node) []int {
	out := []int{0}
	for _, n := range t {
		out = append(out, max(0, n.From), max(0, n.To))
	}
	slices.Sort(out)
	return slices.Compact(out)
}

// plainSpans: by the words of 21.2.
func plainSpans(paints []api.PaintDef, t []api.Node) []api.Span {
	var out []api.Span
	l, places := plainForest(t), plainPlaces(t)
	for i, from := range places[:len(places)-1] {
		s := api.Span{From: from, To: places[i+1], Class: plainClass(paints, l, from)}
		switch last := len(out) - 1; {
		case s.Class == "":
		case last >= 0 && out[last].To == s.From && out[last].Class == s.Class:
			out[last].To = s.To
		default:
			out = append(out, s)
		}
	}
	return out
}

// shaped: are the spans rising, none empty, none without a class, and no two that touch of one class?
func shaped(l []api.Span) bool {
	for i, s := range l {
		if s.From < 0 || s.To <= s.From || s.Class == "" {
			return false
		}
		if i > 0 && (l[i-1].To > s.From || l[i-1].To == s.From && l[i-1].Class == s.Class) {
			return false
		}
	}
	return true
}

// at: what the spans say of a byte.
func at(l []api.Span, at int) string {
	for _, s := range l {
		if s.From <= at && at < s.To {
			return s.Class
		}
	}
	return ""
}

// lang: a language of which all but the paint lines is no language's.
func lang(paints []api.PaintDef) api.Lang { return api.Lang{Name: "l", Paints: paints} }

// check: the spans, and the classes around all places of the nodes, held against the words of 21.1 and 21.2.
func check(t *testing.T, paints []api.PaintDef, nodes []api.Node) []api.Span {
	t.Helper()
	got, want := paint.Spans(lang(paints), nodes), plainSpans(paints, nodes)
	if !shaped(got) || !slices.Equal(got, want) {
		t.Fatalf("21.2: Spans(%+v, %+v) = %v, want %v", paints, nodes, got, want)
	}
	l := plainForest(nodes)
	for _, p := range append(plainPlaces(nodes), -1) {
		for _, x := range []int{p - 1, p} {
			class := paint.Class(lang(paints), nodes, x)
			if class != plainClass(paints, l, x) || class != at(got, x) {
				t.Fatalf("21.1: Class(%+v, %+v, %d) = %q, want %q", paints, nodes, x, class, plainClass(paints, l, x))
			}
		}
	}
	return got
}

func pick[T any](r *rand.Rand, l ...T) T { return l[r.Intn(len(l))] }

func loaded(t *testing.T, text string) api.Lang {
	t.Helper()
	l, fault := load.Load(text)
	if fault != (api.Fault{}) {
		t.Fatalf("%s is no language: %+v", text, fault)
	}
	return l
}

// enough: has each of these kinds come up often enough to tell something?
func enough(t *testing.T, least int, seen map[string]int, kinds ...string) {
	t.Helper()
	for _, k := range kinds {
		if seen[k] < least {
			t.Errorf("only %d of %q: %v", seen[k], k, seen)
		}
	}
}
