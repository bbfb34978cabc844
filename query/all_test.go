package query_test

import (
	"fmt"
	"math"
	"math/rand"
	"slices"
	"strings"
	"testing"

	"trellis/api"
	"trellis/load"
	"trellis/parse"
	"trellis/query"
	"trellis/tree"
)

// asked: the query of a text that must be one.
func asked(t *testing.T, text string) api.Query {
	t.Helper()
	q, code, at := query.Parse(text)
	if code != api.OK {
		t.Fatalf("20.1: %s: %d at %d", text, code, at)
	}
	return q
}

// checkAll: All, held against the model.
func checkAll(t *testing.T, q api.Query, nodes []api.Node, text string) [][]int {
	t.Helper()
	got, want := found(query.All(q, nodes, text)), plainAll(q, nodes, text)
	if !sameLists(got, want) {
		t.Fatalf("20.5: All(%+v, %+v, %q) = %v, want %v", q, nodes, text, got, want)
	}
	return got
}

// row: a query over a tree, and its matches.
type row struct{ query, want string }

func checkRows(t *testing.T, nodes []api.Node, text string, rows []row) {
	t.Helper()
	for _, c := range rows {
		if got := fmt.Sprint(checkAll(t, asked(t, c.query), nodes, text)); got != c.want {
			t.Errorf("20.5: %s over %s: %s, want %s", c.query, tree.Text(nodes), got, c.want)
		}
	}
}

// 20.4, 20.5: the chapter's tree, and others.
func TestAll(t *testing.T) {
	node := func(name string, named bool, field string, from, to, kids int) api.Node {
		return api.Node{Name: name, Named: named, Field: field, From: from, To: to, Kids: kids, Leaf: -1}
	}
	checkRows(t, []api.Node{node("s", true, "", 0, 3, 3), node("a", true, "", 0, 1, 1), node("x", false, "", 0, 1, 0), node("b", true, "", 1, 2, 1), node("x", false, "", 1, 2, 0), node("a", true, "", 2, 3, 1), node("y", false, "", 2, 3, 0)}, "xxy", []row{
		{`(s (a) @p (a) @q)`, "[[0 1 5]]"}, {`(s (a) @p (a) @q) when @p = @q`, "[]"}, {`(s (a) @p (a) @q) unless @p = @q`, "[[0 1 5]]"}, {`(_ "x")`, "[[1 2] [3 4]]"}, {`(s (b) (b))`, "[]"},
		{`(_)`, "[[0] [1] [2] [3] [4] [5] [6]]"}, {`(s)`, "[[0]]"}, {`(a)`, "[[1] [5]]"}, {`"x"`, "[[2] [4]]"}, {`(x)`, "[]"}, {`"a"`, "[]"}, {`"s"`, "[]"}, {`(z)`, "[]"},
		{`(s (_))`, "[[0 1]]"}, {`(s (_) (_) (_))`, "[[0 1 3 5]]"}, {`(s (_) (_) (_) (_))`, "[]"}, {`(s (b) (a))`, "[[0 3 5]]"}, {`(s (a) (b) (a))`, "[[0 1 3 5]]"}, {`(s (b) (a) (a))`, "[]"}, {`(s (a) (a) (b))`, "[]"}, {`(s (a "y"))`, "[[0 5 6]]"}, {`(s (_ "x") (_ "x"))`, "[[0 1 2 3 4]]"}, {`(s (_ "x") (_ "y"))`, "[[0 1 2 5 6]]"}, {`(s (_ "y") (_))`, "[]"}, {`(_ (_ (_)))`, "[[0 1 2]]"}, {`(_ (_ (_ (_))))`, "[]"}, {`(s "x")`, "[]"}, {`(s (_ (_) (_)))`, "[]"},
		// a choice is not taken back for the sake of a condition
		{`(s (a) @p) when @p = "y"`, "[]"}, {`(s (a) @p) when @p = "x"`, "[[0 1]]"}, {`(s (_) @p (_) @q) unless @p = @q`, "[]"}, {`(s (_) @p (_) @q) when @p = @q`, "[[0 1 3]]"}, {`(a) @p when @p = "y"`, "[[5]]"}, {`(a) @p unless @p = "y"`, "[[1]]"}, {`(_ (_) @p) @q when @p = @q`, "[[1 2] [3 4] [5 6]]"}, {`(_ (_) @p) @q unless @p = @q`, "[[0 1]]"},
		// all conditions hold, or none of it counts
		{`(_) @p unless @p = "x" unless @p = "y"`, "[[0]]"}, {`(_) @p when @p = "x" when @p = "y"`, "[]"}, {`(_) @p when @p = @p`, "[[0] [1] [2] [3] [4] [5] [6]]"}, {`(_) @p unless @p = @p`, "[]"}, {`(_) @p when @p = ""`, "[]"}, {`(_) @p when @p = "xxy" unless @p = "" when @p = @p`, "[[0]]"}, {`(_) @p when @p = "xx"`, "[]"},
	})
	// fields: of named nodes and of others; a node that is not named may have children
	checkRows(t, []api.Node{node("s", true, "", 0, 3, 4), node("a", true, "f", 0, 1, 0), node("a", false, "f", 0, 1, 1), node("a", true, "g", 1, 2, 0), node("a", true, "", 1, 2, 0), node("a", false, "g", 2, 3, 0)}, "abc", []row{
		{`f: (a)`, "[[1]]"}, {`f: "a"`, "[[2]]"}, {`f: (_)`, "[[1] [2]]"}, {`g: (_)`, "[[3] [5]]"}, {`g: "a"`, "[[5]]"}, {`h: (_)`, "[]"}, {`"a"`, "[[2] [5]]"}, {`(a)`, "[[1] [3] [4]]"}, {`(_ g: (_))`, "[[0 5] [2 3]]"}, {`(s f: (_) g: (_))`, "[[0 1 5]]"}, {`(s g: (_) f: (_))`, "[]"}, {`(s f: (_) f: (_) g: (_))`, "[[0 1 2 5]]"}, {`f: (_ (a))`, "[[2 3]]"}, {`s: (s)`, "[]"}, {`(s (a) "a" (a) "a")`, "[[0 1 2 4 5]]"}, {`(s f: (_ g: (a)))`, "[[0 2 3]]"},
	})
	// several trees: no node is above them, and none beside another
	checkRows(t, []api.Node{node("a", true, "", 0, 1, 1), node("b", true, "", 0, 1, 0), node("a", true, "", 1, 2, 0), node("b", true, "", 2, 3, 0)}, "abc", []row{
		{`(a)`, "[[0] [2]]"}, {`(b)`, "[[1] [3]]"}, {`(a (b))`, "[[0 1]]"}, {`(_ (_))`, "[[0 1]]"}, {`(_ (_) (_))`, "[]"},
	})
	checkRows(t, nil, "abc", []row{{`(_)`, "[]"}, {`(_) @x when @x = ""`, "[]"}})
	checkRows(t, []api.Node{{}}, "", []row{{`(_)`, "[[0]]"}, {`(_) @x when @x = ""`, "[[0]]"}, {`"a"`, "[]"}})
}

// 20.5: the bytes of nodes whose places are no text's.
func TestBytes(t *testing.T) {
	const text = "xyz"
	for _, c := range []struct {
		from, to int
		want     string
	}{
		{0, 3, "xyz"}, {1, 2, "y"}, {0, 0, ""}, {3, 3, ""}, {2, 1, ""}, {0, 4, "xyz"}, {2, 99, "z"}, {3, 4, ""}, {4, 9, ""}, {-1, 1, "x"}, {-3, 99, "xyz"}, {-9, 0, ""}, {-9, -3, ""}, {-3, -9, ""}, {9, 4, ""}, {3, 2, ""}, {1, -1, ""},
		{math.MinInt, math.MaxInt, "xyz"}, {math.MaxInt, math.MinInt, ""}, {math.MinInt, math.MinInt, ""}, {math.MaxInt, math.MaxInt, ""}, {1, math.MaxInt, "yz"}, {math.MinInt, 2, "xy"}, {1 << 62, -1 << 63, ""},
	} {
		nodes := []api.Node{{Name: "a", Named: true, From: c.from, To: c.to}}
		for _, other := range []string{"", "x", "y", "z", "xy", "yz", "xyz", "xyz\x00"} {
			for _, not := range []bool{false, true} {
				q := api.Query{Nodes: []api.PatNode{{Capture: "p"}}, Conds: []api.Cond{{Not: not, A: "p", Text: other}}}
				if got := checkAll(t, q, nodes, text); len(got) == 1 != (other == c.want != not) {
					t.Errorf("20.5: the bytes from %d to %d: %q, not %v: %v", c.from, c.to, other, not, got)
				}
			}
		}
	}
}

// forests: all lists of at most n nodes that are trees, of these nodes but for how many children they have.
func forests(n int, kinds []api.Node, each func([]api.Node)) {
	var row func(l []api.Node, left int)
	row = func(l []api.Node, left int) { // made from the end
		each(l)
		if left == 0 {
			return
		}
		for kids := range tree.Roots(l) + 1 {
			for _, k := range kinds {
				k.Kids = kids
				row(append([]api.Node{k}, l...), left-1)
			}
		}
	}
	row(nil, n)
}

// patterns: all patterns of at most n nodes, of these but for how many children they have.
func patterns(n int, kinds []api.PatNode, each func(api.Query)) {
	forests(n, make([]api.Node, 1), func(shape []api.Node) {
		if tree.Roots(shape) != 1 {
			return
		}
		var row func(l []api.PatNode)
		row = func(l []api.PatNode) {
			if len(l) == len(shape) {
				if q := (api.Query{Nodes: slices.Clone(l)}); query.Shaped(q) {
					each(q)
				}
				return
			}
			for _, k := range kinds {
				k.Kids = shape[len(l)].Kids
				row(append(l, k))
			}
		}
		row(nil)
	})
}

// 20.4, 20.5, 20.7: all small patterns over all small lists of trees.
func TestAllSmall(t *testing.T) {
	for _, c := range []struct {
		nodes, pattern int
		trees          []api.Node
		kinds          []api.PatNode
		least          int
	}{
		{4, 3, []api.Node{{Name: "a", Named: true}, {Name: "b", Named: true}, {Name: "a"}}, []api.PatNode{{}, {Name: "a"}, {Name: "a", Lit: true}}, 50000},
		{4, 3, []api.Node{{Name: "a", Named: true}, {Name: "a", Named: true, Field: "f"}, {Name: "a", Field: "f"}}, []api.PatNode{{}, {Name: "a", Field: "f"}, {Name: "a", Lit: true, Field: "f"}}, 50000},
		{5, 4, []api.Node{{Name: "a", Named: true}, {Name: "b", Named: true}}, []api.PatNode{{}, {Name: "a"}}, 50000},
		{8, 6, []api.Node{{Name: "a", Named: true}}, []api.PatNode{{}}, 20000},
	} {
		seen := 0
		patterns(c.pattern, c.kinds, func(q api.Query) {
			forests(c.nodes, c.trees, func(nodes []api.Node) {
				checkAll(t, q, nodes, "")
				seen++
			})
		})
		if seen < c.least {
			t.Errorf("20.5: only %d of at most %d nodes", seen, c.nodes)
		}
	}
}

// 20.4, 20.5, 20.7: larger trees and patterns, with conditions.
func TestAllRandom(t *testing.T) {
	r := rand.New(rand.NewSource(205))
	seen := map[string]int{}
	for range 100000 {
		text := strings.Repeat(pick(r, "x", "xy", "yx"), 1+r.Intn(3))
		nodes := randomTrees(r, 1+r.Intn(14), text)
		q := randomPattern(r, 1+r.Intn(6))
		got := checkAll(t, q, nodes, text)
		bare := checkAll(t, api.Query{Nodes: q.Nodes}, nodes, text)
		if len(got) > 0 && len(q.Nodes) > 2 {
			seen["found"]++
		}
		if len(got) < len(bare) {
			seen["conditions"]++
		}
		if len(bare) > len(nodes) {
			t.Fatalf("20.5: %d matches in %d nodes", len(bare), len(nodes))
		}
	}
	enough(t, seen, 2000, "found", "conditions")
}

// 20.5: queries that are none, and lists that are no trees.
func TestAllOdd(t *testing.T) {
	r := rand.New(rand.NewSource(208))
	seen := map[string]int{}
	for i := range 30000 {
		nodes := randomTrees(r, 1+r.Intn(8), "xyxy")
		q := randomPattern(r, 1+r.Intn(4))
		if i%2 == 0 {
			q = spoiltQuery(r, q)
		}
		for range i % 3 {
			n := &nodes[r.Intn(len(nodes))]
			*pick(r, &n.Kids, &n.From, &n.To, &n.Leaf) = anyNumber(r)
		}
		checkAll(t, q, nodes, pick(r, "", "xyxy", "x", "\xff\x00"))
		if !plainShaped(q) {
			seen["unshaped"]++
		} else if tree.Roots(nodes) < 0 {
			seen["no trees"]++
		}
	}
	enough(t, seen, 2000, "unshaped", "no trees")
	for _, nodes := range [][]api.Node{{{Kids: 1}}, {{Kids: -1}}, {{Kids: 1}, {Kids: 1}}, {{}, {Kids: math.MaxInt}}, {{Kids: 2}, {Kids: math.MinInt}, {}}, {{Kids: math.MaxInt}, {Kids: math.MaxInt}, {Kids: 4}}} {
		if got := query.All(asked(t, "(_)"), nodes, ""); len(got) != 0 {
			t.Errorf("20.5: %+v: %v", nodes, got)
		}
	}
}

// little: a part of the definition of doc/29-trellis.md.
const little = `language little; skip /[ \t\n]+/; token NUMBER /[0-9]+/; token NAME /[a-z_]+/;
rule file = (_line ";")*; rule _line = assign | _expr; rule assign = target: NAME "=" value: _expr; rule _expr = sum | _term; rule sum = left: _expr op: ("+" | "-") right: _term; rule _term = NAME | NUMBER | call | "(" _expr ")"; rule call = function: NAME "(" (_expr ("," _expr)*)? ")";`

// 20.5: trees as they come from texts, and those of a text that is refused.
func TestAllParsed(t *testing.T) {
	l, fault := load.Load(little)
	if fault.Code != api.OK {
		t.Fatal(fault)
	}
	for _, c := range []struct{ text, query, want string }{
		{"f(1); g(x, 2); f(f(3));", `(call function: (NAME) @f "(" (_) @x) when @f = "f"`, "f(1) f(f(3)) f(3)"},
		{"f(1); g(x, 2); f(f(3));", `(call function: (NAME) @f (_) "," (NUMBER) @x)`, "g(x, 2)"},
		{"f(1); g(x, 2); f(f(3));", `(call function: (NAME) @f (call function: (NAME) @g)) when @f = @g`, "f(f(3))"},
		{"a = a + 1; b = a + 1; c=c+(c);", `(assign target: (_) @t value: (sum left: (_) @l)) when @t = @l`, "a = a + 1 c=c+(c)"},
		{"a = a + 1; b = a - 1;", `(sum op: "-")`, "a - 1"},
		{"a = a + 1; b = a - 1;", `(_ op: (_) @o) unless @o = "-"`, "a + 1"},
		{"a + b + c;", `(sum (sum))`, "a + b + c"},
		{"a + b + c;", `right: (NAME)`, "b c"},
		{"f(); f(g());", `(call "(" ")")`, "f() f(g()) g()"},
		{"f(a, b); a = ", `(NAME) @x when @x = "a"`, "a a"},
		{"f(a, b); a = ", `(file)`, ""},
		{"f(a, b); a = ", `(call)`, "f(a, b)"},
		{"", `(_)`, ""},
	} {
		r := parse.Parse(l, c.text)
		var got []string
		for _, m := range checkAll(t, asked(t, c.query), r.Nodes, c.text) {
			got = append(got, c.text[r.Nodes[m[0]].From:r.Nodes[m[0]].To])
		}
		if strings.Join(got, " ") != c.want {
			t.Errorf("20.5: %s over %q: %q, want %q", c.query, c.text, got, c.want)
		}
	}
}
