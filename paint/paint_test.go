package paint_test

import (
	"fmt"
	"math"
	"math/rand"
	"slices"
	"strings"
	"testing"

	"trellis/api"
	"trellis/paint"
	"trellis/parse"
	"trellis/tree"
)

const sums = `language sums; skip / +/; token n /[0-9]+/; rule s = t ("+" t)*; rule t = n | "(" s ")"; `

// told: spans as one text.
func told(l []api.Span) string {
	var out []string
	for _, s := range l {
		out = append(out, fmt.Sprintf("%d-%d %s", s.From, s.To, s.Class))
	}
	return strings.Join(out, ", ")
}

// 21.1, 21.2: the chapter's table.
func TestExamples(t *testing.T) {
	const all = `paint n "number"; paint "+" "sign"; paint t "term";`
	for _, c := range []struct{ lines, text, want string }{
		{all, "1+(22)", "0-1 number, 1-2 sign, 2-3 term, 3-5 number, 5-6 term"},
		{`paint "+" "sign"; paint t "term";`, "1+(22)", "0-1 term, 1-2 sign, 2-6 term"},
		{`paint n ""; paint "+" "sign"; paint t "term";`, "1+(22)", "1-2 sign, 2-3 term, 5-6 term"},

		{"", "1+(22)", ""},
		{`paint s "all";`, "1+(22)", "0-6 all"},
		{`paint s "all";`, " 1 + 2 ", "1-6 all"}, // blanks in it are its own, those around it are not
		{`paint n "number";`, "1 + 2 2", "0-1 number, 4-5 number"},
		{`paint s "x"; paint t "x"; paint "+" "x";`, "1+(22)", "0-6 x"}, // nodes of one class are one span
		{`paint s "x"; paint t ""; paint n "x";`, "1+(22)", "0-2 x, 3-5 x"},
		{`paint s ""; paint t "";`, "1+(22)", ""},
		{all, "1+(22", "0-1 number, 1-2 sign, 3-5 number"}, // refused: what had been made
		{all, "?", ""}, {all, "", ""}, {all, "1+", "0-1 number, 1-2 sign"}, // (the first t has been made; n is within it)
		{`paint t "term";`, "1+", "0-1 term"}, {`paint t "term";`, "1", "0-1 term"}, {`paint t "term";`, "1 1", ""}, // the last token alone: no t yet
	} {
		l := loaded(t, sums+c.lines)
		r := parse.Parse(l, c.text)
		if got := told(paint.Spans(l, r.Nodes)); got != c.want {
			t.Errorf("21.2: %s over %q: %s, want %s", c.lines, c.text, got, c.want)
		}
		check(t, l.Paints, r.Nodes)
	}
	l := loaded(t, sums+all)
	r := parse.Parse(l, "1+(22)")
	for at, want := range map[int]string{0: "number", 1: "sign", 2: "term", 3: "number", 4: "number", 5: "term", 6: "", 7: "", -1: "", math.MinInt: "", math.MaxInt: ""} {
		if got := paint.Class(l, r.Nodes, at); got != want {
			t.Errorf("21.1: at %d: %q, want %q", at, got, want)
		}
	}
	if got := paint.Class(l, nil, 0); got != "" {
		t.Errorf("21.1: of no nodes: %q", got)
	}
}

// 21.1, 21.2: lists of nodes as no parse has them.
func TestOddNodes(t *testing.T) {
	paints := []api.PaintDef{{Name: "a", Class: "x"}, {Name: "a", Class: "y"}, {Name: "b", Class: "z"}, {Name: "e"}, {Name: "e", Class: "late"}, {Name: "A", Class: "x"}, {Name: "", Class: "none"}}
	node := func(name string, from, to, kids int) api.Node {
		return api.Node{Name: name, Named: kids == 0, From: from, To: to, Kids: kids}
	}
	const most, least = math.MaxInt, math.MinInt
	for _, c := range []struct {
		what  string
		nodes []api.Node
		want  string
	}{
		{"no nodes", nil, ""},
		{"no forest: a child is missing", []api.Node{node("a", 0, 2, 1)}, ""},
		{"no forest behind a tree", []api.Node{node("a", 0, 2, 0), node("a", 3, 4, 1)}, ""},
		{"no forest: less than no children", []api.Node{node("a", 0, 2, 0), node("a", 3, 4, -1)}, ""},
		{"no forest: numbers that cancel out", []api.Node{node("a", 0, 2, 2), node("a", 0, 2, -1), node("a", 0, 2, 0)}, ""},
		{"no forest: as many children as there are numbers", []api.Node{node("a", 0, 2, most), node("a", 0, 2, most), node("a", 0, 2, 0)}, ""},
		{"no forest: the least number", []api.Node{node("a", 0, 2, least)}, ""},

		{"no line names it", []api.Node{node("c", 0, 2, 0)}, ""},
		{"the first of two lines", []api.Node{node("a", 0, 2, 0)}, "0-2 x"},
		{"the first of two lines has no class", []api.Node{node("a", 0, 3, 1), node("e", 1, 2, 0)}, "0-1 x, 2-3 x"},
		{"no class below another that has none", []api.Node{node("e", 0, 9, 2), node("c", 1, 2, 0), node("a", 3, 4, 0)}, "3-4 x"},
		{"a node without a name", []api.Node{node("", 0, 2, 0)}, "0-2 none"},
		{"named or not", []api.Node{{Name: "b", To: 1, Named: true}, {Name: "b", From: 2, To: 3, Field: "a"}, {Name: "b", From: 4, To: 5, Leaf: -1}}, "0-1 z, 2-3 z, 4-5 z"},
		{"of one class side by side", []api.Node{node("a", 0, 2, 0), node("A", 2, 4, 0), node("b", 4, 5, 0), node("a", 6, 7, 0)}, "0-4 x, 4-5 z, 6-7 x"},
		{"below a name that has no line", []api.Node{node("a", 0, 5, 1), node("c", 1, 4, 1), node("b", 2, 3, 0)}, "0-2 x, 2-3 z, 3-5 x"},
		{"of one class below one another", []api.Node{node("a", 0, 5, 1), node("b", 1, 4, 1), node("a", 1, 4, 0)}, "0-5 x"},

		{"no byte", []api.Node{node("a", 2, 2, 0)}, ""},
		{"less than no byte", []api.Node{node("a", 3, 1, 0)}, ""},
		{"ahead of all bytes", []api.Node{node("a", -5, 0, 0), node("a", least, -1, 0)}, ""},
		{"partly ahead of all bytes", []api.Node{node("a", -5, 2, 0)}, "0-2 x"},
		{"all numbers", []api.Node{node("a", least, most, 0)}, fmt.Sprintf("0-%d x", most)},
		{"up to the greatest number", []api.Node{node("c", 0, most, 1), node("a", most-1, most, 0)}, fmt.Sprintf("%d-%d x", most-1, most)},
		{"from the greatest number on", []api.Node{node("a", most, most, 0), node("a", most, least, 0)}, ""},

		{"the roots upside down", []api.Node{node("b", 3, 6, 0), node("a", 0, 9, 0)}, "0-3 x, 3-6 z, 6-9 x"},
		{"the first of two roots", []api.Node{node("a", 0, 9, 0), node("b", 3, 12, 0)}, "0-9 x, 9-12 z"},
		{"the first root, though no line names it", []api.Node{node("c", 0, 5, 0), node("b", 3, 9, 0)}, "5-9 z"},
		{"the first root, though it has no class", []api.Node{node("e", 0, 5, 0), node("b", 3, 9, 0)}, "5-9 z"},
		{"the first root, though a child of the second is there", []api.Node{node("a", 2, 4, 0), node("c", 0, 6, 1), node("b", 1, 5, 0)}, "1-2 z, 2-4 x, 4-5 z"},
		{"the first child, though a later one is larger", []api.Node{node("c", 0, 9, 3), node("a", 2, 4, 0), node("c", 3, 6, 0), node("b", 1, 8, 0)}, "1-2 z, 2-4 x, 6-8 z"},
		{"a child's child in front of its own brother", []api.Node{node("c", 0, 9, 2), node("c", 0, 4, 1), node("a", 2, 3, 0), node("b", 0, 9, 0)}, "2-3 x, 4-9 z"},
		{"a child beyond its parent", []api.Node{node("a", 2, 4, 1), node("b", 0, 9, 0)}, "2-4 z"},
		{"a child beside its parent", []api.Node{node("a", 2, 4, 1), node("b", 4, 9, 0)}, "2-4 x"},
		{"a child of a node without a byte", []api.Node{node("a", 2, 2, 1), node("b", 0, 9, 0)}, ""},
		{"a child of a node upside down", []api.Node{node("a", 7, 1, 1), node("b", 0, 9, 0)}, ""},
		{"a grandchild beyond its parent", []api.Node{node("a", 0, 9, 1), node("c", 3, 5, 1), node("b", 0, 9, 0)}, "0-3 x, 3-5 z, 5-9 x"},
		{"a grandchild beyond its grandparent", []api.Node{node("a", 3, 5, 1), node("c", 0, 9, 1), node("b", 0, 4, 0)}, "3-4 z, 4-5 x"},
		{"a root in the hole that a later one has", []api.Node{node("a", 4, 5, 0), node("b", 0, 9, 1), node("c", 4, 5, 1), node("e", 4, 5, 0)}, "0-4 z, 4-5 x, 5-9 z"},
	} {
		if got := told(check(t, paints, c.nodes)); got != c.want {
			t.Errorf("21.2: %s: %s, want %s", c.what, got, c.want)
		}
		if got := check(t, nil, c.nodes); len(got) != 0 {
			t.Errorf("21.2: %s, without lines: %v", c.what, got)
		}
	}
}

// forests: all forests of just n nodes of these kinds, but for how many children they have.
func forests(n int, kinds []api.Node, each func([]api.Node)) {
	var grow func(l []api.Node)
	grow = func(l []api.Node) { // made from the end
		if len(l) == n {
			each(l)
			return
		}
		for kids := range tree.Roots(l) + 1 {
			for _, k := range kinds {
				k.Kids = kids
				grow(append([]api.Node{k}, l...))
			}
		}
	}
	grow(nil)
}

// 21.1, 21.2: all small forests.
func TestAllSmall(t *testing.T) {
	paints := []api.PaintDef{{Name: "a", Class: "x"}, {Name: "b", Class: "y"}, {Name: "e"}}
	kinds := func(least, most int, names ...string) []api.Node {
		var out []api.Node
		for _, name := range names {
			for from := least; from <= most; from++ {
				for to := from; to <= most; to++ {
					out = append(out, api.Node{Name: name, From: from, To: to})
				}
			}
		}
		return append(out, api.Node{Name: names[0], From: most, To: least})
	}
	proper := func(l []api.Node) []api.Node {
		return slices.DeleteFunc(l, func(n api.Node) bool { return n.From >= n.To })
	}
	for _, c := range []struct {
		nodes int
		kinds []api.Node
		want  int
	}{
		{1, kinds(-2, 3, "a", "b", "c", "e"), 85},
		{2, kinds(-1, 3, "a", "b", "c", "e"), 2 * 61 * 61},
		{3, kinds(0, 3, "a", "b", "c"), 5 * 31 * 31 * 31},
		{4, proper(kinds(0, 2, "a", "b", "c")), 14 * 9 * 9 * 9 * 9},
		{4, proper(kinds(0, 3, "a", "c")), 14 * 12 * 12 * 12 * 12},
	} {
		seen := 0
		forests(c.nodes, c.kinds, func(nodes []api.Node) {
			check(t, paints, nodes)
			seen++
		})
		if seen != c.want {
			t.Errorf("%d forests of %d nodes, want %d", seen, c.nodes, c.want)
		}
	}
}

// anyForest: n nodes that are a forest, their places as they come.
func anyForest(r *rand.Rand, n int, names []string, place func() int) []api.Node {
	var out []api.Node
	for roots := 0; len(out) < n; {
		kids := pick(r, 0, 0, r.Intn(roots+1), min(roots, 2))
		from := place()
		x := api.Node{Name: pick(r, names...), Named: r.Intn(2) == 0, Field: pick(r, "", "f"), From: from, To: from + pick(r, 1, 2, 5, r.Intn(9)), Kids: kids, Leaf: r.Intn(5) - 1}
		if r.Intn(9) == 0 || x.To < from {
			x.To = place()
		}
		out = append([]api.Node{x}, out...)
		roots += 1 - kids
	}
	return out
}

// anyPaints: paint lines as they come: several of one name, and some without a class.
func anyPaints(r *rand.Rand, n int, names []string) []api.PaintDef {
	var out []api.PaintDef
	for range pick(r, n, n, r.Intn(n+1)) {
		out = append(out, api.PaintDef{Name: pick(r, names...), Class: pick(r, "x", "y", "z", "x", "")})
	}
	return out
}

// 21.1, 21.2: larger lists, most of which are forests.
func TestRandom(t *testing.T) {
	r := rand.New(rand.NewSource(211))
	seen := map[string]int{}
	names := []string{"a", "b", "c", "d", "e", "", "+"}
	near := func() int { return r.Intn(pick(r, 15, 60)) - 3 }
	far := func() int {
		return pick(r, 0, 1, 2, 3, -1, r.Intn(9), math.MaxInt, math.MaxInt-1, math.MaxInt-r.Intn(5), math.MinInt, math.MinInt+1, 1<<62, -1<<62, 1<<32)
	}
	for i := range 60000 {
		place := near
		if i%4 == 0 {
			place = far
		}
		nodes := anyForest(r, 1+r.Intn(pick(r, 4, 12, 30)), names, place)
		if i%10 == 0 {
			nodes[r.Intn(len(nodes))].Kids = pick(r, -1, 0, 1, 2, 9, math.MaxInt, math.MinInt)
		}
		got := check(t, anyPaints(r, 8, names), nodes)
		switch {
		case plainForest(nodes) == nil:
			seen["no forest"]++
		case len(got) == 0:
			seen["none"]++
		case len(got) > 3:
			seen["many"]++
		}
	}
	enough(t, 1000, seen, "no forest", "none", "many")
}

// 21.2: byte by byte, with no thought of where a class may change.
func TestByteByByte(t *testing.T) {
	r := rand.New(rand.NewSource(212))
	names := []string{"a", "b", "c", "d"}
	for range 3000 {
		nodes := anyForest(r, 1+r.Intn(12), names, func() int { return r.Intn(20) - 3 })
		paints := anyPaints(r, 5, names)
		spans, l := paint.Spans(lang(paints), nodes), plainForest(nodes)
		for x := range 40 {
			if want := plainClass(paints, l, x); at(spans, x) != want || paint.Class(lang(paints), nodes, x) != want {
				t.Fatalf("21.2: %+v, %+v: %v, %q at %d, want %q", paints, nodes, spans, paint.Class(lang(paints), nodes, x), x, want)
			}
		}
	}
}
