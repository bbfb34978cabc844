package outline_test

import (
	"math"
	"math/rand"
	"slices"
	"strings"
	"testing"

	"trellis/api"
	"trellis/outline"
	"trellis/tree"
)

// node: a named node.
func node(name string, from, to, kids int) api.Node {
	return api.Node{Name: name, Named: true, From: from, To: to, Kids: kids, Leaf: -1}
}

// part: a node with a field, which is not named.
func part(field string, from, to int) api.Node {
	return api.Node{Name: "p", Field: field, From: from, To: to}
}

// 22.1, 22.2: the chapter's example.
func TestExample(t *testing.T) {
	const text = "def a\n  x\ndef b"
	nodes := []api.Node{node("def", 0, 9, 2), part("name", 4, 5), node("block", 8, 9, 0), node("def", 10, 15, 1), part("name", 14, 15)}
	marks := []api.MarkDef{{Name: "def", Field: "name"}}
	for _, c := range []struct{ fold, want string }{{"block", ""}, {"def", "0-1"}} {
		folds, symbols := check(t, lang([]string{c.fold}, marks), nodes, text)
		if got := toldFolds(folds); got != c.want {
			t.Errorf("22.1: fold %s: %s, want %s", c.fold, got, c.want)
		}
		if got := toldSymbols(symbols); got != `0 def "a" 0-9, 0 def "b" 10-15` {
			t.Errorf("22.2: %s", got)
		}
	}
}

// 22.1, 22.4: rows of nodes, by hand.
func TestFolds(t *testing.T) {
	const text = "a\nb\n\nc\nd\n" // rows from 0, 2, 4, 5, 7, 9 on
	unnamed := node("f", 0, 9, 0)
	unnamed.Named = false
	for _, c := range []struct {
		what  string
		nodes []api.Node
		want  string
	}{
		{"no nodes", nil, ""},
		{"within a row", []api.Node{node("f", 0, 1, 0)}, ""},
		{"up to its line end", []api.Node{node("f", 0, 2, 0)}, ""},
		{"a byte of the next row", []api.Node{node("f", 0, 3, 0)}, "0-1"},
		{"from a line end to the next", []api.Node{node("f", 1, 4, 0)}, "0-1"},
		{"a line end and the next byte", []api.Node{node("f", 1, 3, 0)}, "0-1"},
		{"line ends alone", []api.Node{node("f", 3, 5, 0)}, "1-2"},
		{"an empty row's line end", []api.Node{node("f", 4, 5, 0)}, ""},
		{"all of it: the last row has no byte", []api.Node{node("f", 0, 9, 0)}, "0-4"},
		{"without a byte", []api.Node{node("f", 0, 0, 0), node("f", 2, 2, 0), node("f", 4, 4, 0), node("f", 9, 9, 0)}, ""},
		{"not named", []api.Node{unnamed}, ""},
		{"no line", []api.Node{node("h", 0, 9, 0)}, ""},
		{"the second line", []api.Node{node("g", 0, 9, 0)}, "0-4"},
		{"a node without a name", []api.Node{node("", 0, 3, 0)}, "0-1"},
		{"a field does not matter", []api.Node{{Name: "f", Named: true, Field: "h", To: 3, Leaf: 7}}, "0-1"},
		{"nor does a name as a field", []api.Node{{Name: "h", Named: true, Field: "f", To: 3}}, ""},
		{"the greatest last row, first", []api.Node{node("f", 0, 9, 0), node("f", 1, 3, 0)}, "0-4"},
		{"the greatest last row, last", []api.Node{node("f", 0, 3, 0), node("g", 1, 9, 0)}, "0-4"},
		{"the greatest last row, in the midst", []api.Node{node("f", 0, 3, 0), node("f", 0, 6, 0), node("f", 0, 5, 0)}, "0-3"},
		{"the same rows twice", []api.Node{node("f", 0, 3, 0), node("g", 1, 4, 0)}, "0-1"},
		{"within one another", []api.Node{node("f", 0, 9, 1), node("f", 2, 8, 1), node("f", 5, 8, 0)}, "0-4, 1-4, 3-4"},
		{"below one of another name", []api.Node{node("h", 0, 9, 1), node("f", 2, 6, 0)}, "1-3"},
		{"below one that is not named", []api.Node{{Name: "f", To: 9, Kids: 1}, node("f", 2, 6, 0)}, "1-3"},
		{"upside down", []api.Node{node("f", 5, 8, 0), node("f", 0, 3, 0)}, "0-1, 3-4"},
		{"across one another", []api.Node{node("f", 2, 8, 0), node("f", 0, 6, 0)}, "0-3, 1-4"},
		{"a child beyond its parent", []api.Node{node("f", 2, 3, 1), node("f", 0, 9, 0)}, "0-4"},
	} {
		l := lang([]string{"f", "g", "f", ""}, nil)
		folds, _ := check(t, l, c.nodes, text)
		if got := toldFolds(folds); got != c.want {
			t.Errorf("22.1: %s: %s, want %s", c.what, got, c.want)
		}
		if folds := outline.Folds(lang(nil, nil), c.nodes, text); len(folds) != 0 {
			t.Errorf("22.1: %s, without fold lines: %v", c.what, folds)
		}
	}
}

// 22.2, 22.3: symbols by hand.
func TestSymbols(t *testing.T) {
	const text = "abc\ndef\xff"
	unnamed := node("m", 0, 4, 1)
	unnamed.Named = false
	for _, c := range []struct {
		what  string
		nodes []api.Node
		want  string
	}{
		{"no nodes", nil, ""},
		{"no child", []api.Node{node("m", 0, 4, 0)}, ""},
		{"a field of its own is no child's", []api.Node{{Name: "m", Named: true, Field: "f", To: 4}}, ""},
		{"its child", []api.Node{node("m", 0, 4, 1), part("f", 1, 2)}, `0 m "b" 0-4`},
		{"its child is named", []api.Node{node("m", 0, 4, 1), {Name: "q", Named: true, Field: "f", From: 1, To: 4}}, `0 m "bc\n" 0-4`},
		{"its child has no byte", []api.Node{node("m", 0, 4, 1), part("f", 2, 2)}, `0 m "" 0-4`},
		{"neither has a byte", []api.Node{node("m", 8, 8, 1), part("f", 8, 8)}, `0 m "" 8-8`},
		{"odd bytes", []api.Node{node("m", 0, 8, 1), part("f", 6, 8)}, `0 m "f\xff" 0-8`},
		{"another field", []api.Node{node("m", 0, 4, 1), part("h", 1, 2)}, ""},
		{"no field", []api.Node{node("m", 0, 4, 1), part("", 1, 2)}, ""},
		{"a child that is called as the field", []api.Node{node("m", 0, 4, 1), node("f", 1, 2, 0)}, ""},
		{"not named", []api.Node{unnamed, part("f", 1, 2)}, ""},
		{"no mark", []api.Node{node("o", 0, 4, 1), part("f", 1, 2)}, ""},
		{"the first of two children", []api.Node{node("m", 0, 4, 3), part("g", 0, 1), part("f", 1, 2), part("f", 2, 3)}, `0 m "b" 0-4`},
		{"the first of two, though it stands further on in the text", []api.Node{node("m", 0, 4, 2), part("f", 2, 3), part("f", 1, 2)}, `0 m "c" 0-4`},
		{"the last of several", []api.Node{node("m", 0, 4, 3), part("g", 0, 1), node("o", 1, 2, 1), part("f", 1, 2), part("f", 2, 3)}, `0 m "c" 0-4`},
		{"a child's child", []api.Node{node("m", 0, 4, 1), node("o", 1, 2, 1), part("f", 1, 2)}, ""},
		{"the next root", []api.Node{node("m", 0, 4, 0), part("f", 1, 2)}, ""},
		{"the child behind it is the next root", []api.Node{node("m", 0, 4, 1), part("", 0, 1), part("f", 1, 2)}, ""},
		{"the second of two marks of one name", []api.Node{node("m", 0, 4, 1), part("g", 1, 2)}, ""},
		{"another mark", []api.Node{node("n", 0, 4, 1), part("g", 1, 2)}, `0 n "b" 0-4`},
		{"the other mark's field", []api.Node{node("n", 0, 4, 1), part("f", 1, 2)}, ""},
		{"a mark without a field", []api.Node{node("e", 0, 4, 2), part("f", 0, 1), part("", 1, 2)}, `0 e "b" 0-4`},
		{"a mark without a name", []api.Node{node("", 0, 4, 1), part("f", 1, 2)}, `0  "b" 0-4`},
		{"side by side", []api.Node{node("m", 0, 2, 1), part("f", 0, 1), node("n", 2, 4, 1), part("g", 3, 4)}, `0 m "a" 0-2, 0 n "\n" 2-4`},
		{"upside down", []api.Node{node("m", 4, 7, 1), part("f", 4, 5), node("m", 0, 3, 1), part("f", 0, 1)}, `0 m "d" 4-7, 0 m "a" 0-3`},
		{"within one another", []api.Node{node("m", 0, 8, 2), part("f", 0, 1), node("m", 1, 8, 2), part("f", 1, 2), node("n", 2, 8, 1), part("g", 2, 3)}, `0 m "a" 0-8, 1 m "b" 1-8, 2 n "c" 2-8`},
		{"and back", []api.Node{node("m", 0, 4, 2), node("m", 0, 2, 1), part("f", 0, 1), part("f", 2, 3), node("m", 4, 7, 1), part("f", 4, 5)}, `0 m "c" 0-4, 1 m "a" 0-2, 0 m "d" 4-7`},
		{"two of them below one", []api.Node{node("m", 0, 8, 3), part("f", 0, 1), node("m", 1, 3, 1), part("f", 1, 2), node("m", 4, 7, 1), part("f", 4, 5)}, `0 m "a" 0-8, 1 m "b" 1-3, 1 m "d" 4-7`},
		{"a node between that is none", []api.Node{node("m", 0, 8, 2), part("f", 0, 1), node("m", 1, 8, 1), node("o", 1, 8, 1), node("n", 2, 8, 1), part("g", 2, 3)}, `0 m "a" 0-8, 1 n "c" 2-8`},
		{"below one that is none", []api.Node{node("m", 0, 8, 1), node("m", 1, 8, 1), part("f", 1, 2)}, `0 m "b" 1-8`},
		{"the child that tells it is one", []api.Node{node("m", 0, 8, 1), {Name: "m", Named: true, Field: "f", From: 1, To: 3, Kids: 1}, part("f", 1, 2)}, `0 m "bc" 0-8, 1 m "b" 1-3`},
		{"the same bytes are not the same node", []api.Node{node("m", 0, 3, 1), part("f", 0, 1), node("m", 0, 3, 1), part("f", 1, 2)}, `0 m "a" 0-3, 0 m "b" 0-3`},
		{"a child beyond its parent", []api.Node{node("m", 2, 3, 2), part("f", 0, 8), node("m", 0, 8, 1), part("f", 3, 4)}, `0 m "abc\ndef\xff" 2-3, 1 m "\n" 0-8`},
	} {
		l := lang(nil, []api.MarkDef{{Name: "m", Field: "f"}, {Name: "m", Field: "g"}, {Name: "n", Field: "g"}, {Name: "e"}, {Field: "f"}})
		_, symbols := check(t, l, c.nodes, text)
		if got := toldSymbols(symbols); got != c.want {
			t.Errorf("22.2: %s: %s, want %s", c.what, got, c.want)
		}
		if symbols := outline.Symbols(lang(nil, nil), c.nodes, text); len(symbols) != 0 {
			t.Errorf("22.2: %s, without marks: %v", c.what, symbols)
		}
	}
}

// P1, 22.1, 22.2: lists that are no trees over the text.
func TestNoTrees(t *testing.T) {
	const text, most, least = "a\nb\nc", math.MaxInt, math.MinInt
	l := lang([]string{"m"}, []api.MarkDef{{Name: "m", Field: "f"}})
	good := []api.Node{node("m", 0, 5, 1), part("f", 0, 1)}
	if folds, symbols := check(t, l, good, text); len(folds) != 1 || len(symbols) != 1 {
		t.Fatalf("%v, %v", folds, symbols)
	}
	for _, c := range []struct {
		what string
		more []api.Node
	}{
		{"a child is missing", []api.Node{node("m", 0, 5, 1)}},
		{"less than no children", []api.Node{node("m", 0, 5, -1)}},
		{"numbers that cancel out", []api.Node{node("m", 0, 5, 2), node("m", 0, 5, -1), node("m", 0, 5, 0)}},
		{"as many children as there are numbers", []api.Node{node("m", 0, 5, most), node("m", 0, 5, most), node("m", 0, 5, 0)}},
		{"the least number of children", []api.Node{node("m", 0, 5, least), node("m", 0, 5, 0)}},
		{"beyond the text", []api.Node{node("o", 0, 6, 0)}},
		{"behind the text", []api.Node{node("o", 6, 6, 0)}},
		{"ahead of the text", []api.Node{node("o", -1, -1, 0)}},
		{"partly ahead of the text", []api.Node{node("o", -1, 3, 0)}},
		{"less than no byte", []api.Node{node("o", 3, 2, 0)}},
		{"a token that no line names", []api.Node{{Name: "o", From: 5, To: 9}}},
		{"all numbers", []api.Node{node("m", least, most, 0)}},
		{"all numbers, upside down", []api.Node{node("m", most, least, 0)}},
		{"the least number", []api.Node{node("m", least, least, 0)}},
		{"the greatest number", []api.Node{node("m", most, most, 0)}},
	} {
		for _, nodes := range [][]api.Node{c.more, slices.Concat(good, c.more), slices.Concat(c.more, good), append(slices.Concat([]api.Node{node("m", 0, 5, 2)}, c.more), part("f", 0, 1))} {
			if _, ok := plainForest(nodes, text); ok { // what is put behind may be just the child that is missing
				check(t, l, nodes, text)
				continue
			}
			if folds, symbols := check(t, l, nodes, text); len(folds) != 0 || len(symbols) != 0 {
				t.Errorf("22.1, 22.2: %s: %v, %v", c.what, folds, symbols)
			}
		}
	}
}

// forests: all forests of just n nodes of these kinds, but for how many children they have.
func forests(n int, kinds []api.Node, each func([]api.Node)) {
	var grow func(l []api.Node)
	grow = func(l []api.Node) { // made from the end
		if len(l) == n {
			each(l)
			return
		}
		for kids := range tree.Roots(l) + 1 {
			for _, k := range kinds {
				k.Kids = kids
				grow(append([]api.Node{k}, l...))
			}
		}
	}
	grow(nil)
}

// kinds: nodes of these names with all places from -1 on up to one more than n.
func kinds(n int, names ...string) []api.Node {
	var out []api.Node
	for _, name := range names {
		for from := -1; from <= n+1; from++ {
			for to := -1; to <= n+1; to++ {
				out = append(out, node(name, from, to, 0))
			}
		}
	}
	return out
}

// within: those whose bytes are a text's of n bytes.
func within(l []api.Node, n int) []api.Node {
	return slices.DeleteFunc(l, func(x api.Node) bool { return x.From < 0 || x.From > x.To || x.To > n })
}

// 22.1, 22.4: all small forests over all small texts.
func TestAllSmallFolds(t *testing.T) {
	l := lang([]string{"f"}, nil)
	seen := map[string]int{}
	for n := range 5 {
		for bits := range 1 << n {
			b := []byte(strings.Repeat("x", n))
			for i := range b {
				if bits>>i&1 == 1 {
					b[i] = '\n'
				}
			}
			text := string(b)
			each := func(nodes []api.Node) {
				folds, _ := check(t, l, nodes, text)
				seen[toldFolds(folds)]++
			}
			forests(1, kinds(n, "f", "h"), each)
			forests(2, within(kinds(n, "f", "h"), n), each)
			if n < 4 {
				forests(3, within(kinds(n, "f"), n), each)
			}
		}
	}
	enough(t, 1, seen, "0-3", "0-1, 1-2", "0-2, 1-2", "0-1, 2-3", "1-3")
}

// 22.2, 22.3: all small forests of nodes that are marked or not, with fields or without.
func TestAllSmallSymbols(t *testing.T) {
	var kinds []api.Node
	for _, name := range []string{"m", "n", "o"} {
		for _, field := range []string{"", "f", "g"} {
			for _, named := range []bool{true, false} {
				kinds = append(kinds, api.Node{Name: name, Named: named, Field: field})
			}
		}
	}
	l := lang(nil, []api.MarkDef{{Name: "m", Field: "f"}, {Name: "n", Field: "g"}, {Name: "m", Field: "g"}})
	most := 0
	for n, kinds := range map[int][]api.Node{1: kinds, 2: kinds, 3: kinds, 4: slices.DeleteFunc(slices.Clone(kinds), func(k api.Node) bool { return k.Name == "o" && k.Named || k.Name == "n" && !k.Named })} {
		forests(n, kinds, func(nodes []api.Node) {
			for i := range nodes { // so that each is told by its bytes
				nodes[i].From, nodes[i].To = i, i+1
			}
			_, symbols := check(t, l, nodes, "abcd")
			most = max(most, len(symbols))
		})
	}
	if most != 3 {
		t.Errorf("at most %d symbols of four nodes", most)
	}
}

// anyForest: n nodes that are a forest, their places as they come.
func anyForest(r *rand.Rand, n int, names, fields []string, size int) []api.Node {
	var out []api.Node
	for roots := 0; len(out) < n; {
		kids := pick(r, 0, 0, r.Intn(roots+1), min(roots, 2))
		from := r.Intn(size + 1)
		to := min(size, from+pick(r, 0, 1, 2, 5, r.Intn(size+1)))
		out = append(out, api.Node{Name: pick(r, names...), Named: r.Intn(4) > 0, Field: pick(r, fields...), From: from, To: to, Kids: kids, Leaf: r.Intn(5) - 1})
		roots += 1 - kids
	}
	slices.Reverse(out)
	return out
}

// anyLang: folds and marks as they come.
func anyLang(r *rand.Rand, names, fields []string) api.Lang {
	var l api.Lang
	for range r.Intn(8) {
		l.Folds = append(l.Folds, pick(r, names...))
	}
	for range r.Intn(12) {
		l.Marks = append(l.Marks, api.MarkDef{Name: pick(r, names...), Field: pick(r, fields...)})
	}
	return l
}

// anyText: bytes as they come, line ends among them.
func anyText(r *rand.Rand, n int) string {
	b := make([]byte, n)
	ends := pick(r, 2, 4, 9, 99)
	for i := range b {
		b[i] = pick[byte](r, 'a', 'b', ' ', '\t', '\r', 0xc3, 0xa9, 0xff, 0)
		if r.Intn(ends) == 0 {
			b[i] = '\n'
		}
	}
	return string(b)
}

// names, fields: what nodes, folds and marks of the tests are called.
func names() []string  { return []string{"a", "b", "c", "d", ""} }
func fields() []string { return []string{"f", "g", "", "a"} }

// 22.1 to 22.4: larger lists, most of which are trees over the text.
func TestRandom(t *testing.T) {
	r := rand.New(rand.NewSource(221))
	seen := map[string]int{}
	for i := range 60000 {
		text := anyText(r, r.Intn(pick(r, 3, 12, 60)))
		nodes := anyForest(r, 1+r.Intn(pick(r, 4, 20, 60)), names(), fields(), len(text))
		x := &nodes[r.Intn(len(nodes))]
		switch i % 16 {
		case 0:
			x.Kids = pick(r, -1, 0, 1, 2, 9, math.MaxInt, math.MinInt)
		case 1:
			x.From = pick(r, -1, len(text)+1, math.MaxInt, math.MinInt, x.To+1)
		case 2:
			x.To = pick(r, -1, len(text)+1, math.MaxInt, math.MinInt, x.From-1)
		}
		folds, symbols := check(t, anyLang(r, names(), fields()), nodes, text)
		if _, ok := plainForest(nodes, text); !ok {
			seen["no trees"]++
		}
		if len(folds) > 2 {
			seen["folds"]++
		}
		if slices.ContainsFunc(symbols, func(s api.Symbol) bool { return s.Depth > 1 }) {
			seen["nested symbols"]++
		}
	}
	enough(t, 1000, seen, "no trees", "folds", "nested symbols")
}
