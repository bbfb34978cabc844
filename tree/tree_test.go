package tree_test

import (
	"math"
	"slices"
	"strings"
	"testing"

	"trellis/api"
	"trellis/tree"
)

// chapter: the language of the chapter's examples: NAME 1, "=" 2, _SEP 3; stmt 4, _value 5, an aux 6.
func chapter() api.Lang {
	return api.Lang{Gram: api.Gram{
		Terms: []api.TermDef{{}, {Name: "NAME"}, {Name: "=", Lit: true}, {Name: "_SEP"}},
		Syms:  []api.Sym{{Name: "stmt", Kind: api.SymShown}, {Name: "_value", Kind: api.SymHidden}, {Kind: api.SymAux}},
		Prods: []api.Prod{
			{Lhs: -1, Rhs: []api.Ref{{Sym: 4}}},
			{Lhs: 0, Rhs: []api.Ref{{Sym: 1, Field: "target"}, {Sym: 2}, {Sym: 5, As: "Val"}, {Sym: 3}}},
			{Lhs: 1, Rhs: []api.Ref{{Sym: 6}}},
			{Lhs: 2},
			{Lhs: 2, Rhs: []api.Ref{{Sym: 1}}},
		},
	}}
}

func leaf(name string, named bool, from, to, number int) api.Node {
	return api.Node{Name: name, Named: named, From: from, To: to, Leaf: number}
}

// inner: a node that is no token's.
func inner(name, field string, from, to, kids int) api.Node {
	return api.Node{Name: name, Named: true, Field: field, From: from, To: to, Kids: kids, Leaf: -1}
}

func TestExamples(t *testing.T) {
	l := chapter()
	sep := tree.Token(l, 3, 5, 7, 8)
	if !slices.Equal(sep, []api.Node{leaf("_SEP", true, 7, 8, 5)}) {
		t.Errorf("15.1: %+v", sep)
	}
	if n := tree.Show(l, 3, sep); len(n) != 0 {
		t.Errorf("15.2: %+v", n)
	}
	if n := tree.Show(l, 1, sep); !slices.Equal(n, sep) {
		t.Errorf("15.2: %+v", n)
	}
	if n := tree.Reduce(l, 3, nil, []int{9}); len(n) != 0 {
		t.Errorf("15.3: %+v", n)
	}
	got := tree.Reduce(l, 1, [][]api.Node{tree.Token(l, 1, 0, 0, 1), tree.Token(l, 2, 1, 2, 3), nil, tree.Token(l, 3, 2, 4, 5)}, []int{0, 1, 3, 3, 5})
	name := leaf("NAME", true, 0, 1, 0)
	name.Field = "target"
	if !slices.Equal(got, []api.Node{inner("stmt", "", 0, 3, 3), name, leaf("=", false, 2, 3, 1), inner("Val", "", 3, 3, 0)}) {
		t.Errorf("15.3: %+v", got)
	}
	if s := tree.Text(got); s != `(stmt target: (NAME) "=" (Val))` {
		t.Errorf("15.7: %s", s)
	}
	for at, want := range map[int][]int{2: {0, 2}, 1: {0}, 4: nil, 0: {0, 1}, 3: nil, -1: nil} {
		if p := tree.Path(got, at); !slices.Equal(p, want) {
			t.Errorf("15.6: Path at %d: %v, want %v", at, p, want)
		}
	}
	for _, kids := range []int{1, -1} {
		if n := tree.Roots([]api.Node{{Kids: kids}}); n != -1 {
			t.Errorf("15.4: %d", n)
		}
	}
}

func TestToken(t *testing.T) {
	l := chapter()
	for _, c := range []struct {
		l    api.Lang
		term int
		want []api.Node
	}{
		{l, 1, []api.Node{leaf("NAME", true, 3, -7, 9)}},
		{l, 2, []api.Node{leaf("=", false, 3, -7, 9)}},
		{l, 3, []api.Node{leaf("_SEP", true, 3, -7, 9)}},
		{l, 0, nil},
		{l, -1, nil},
		{l, 4, nil}, // a Sym
		{l, 5, nil},
		{l, math.MaxInt, nil},
		{l, math.MinInt, nil},
		{api.Lang{}, 0, nil},
		{api.Lang{}, 1, nil},
		{api.Lang{Gram: api.Gram{Terms: []api.TermDef{{Name: "end"}, {}}}}, 0, nil}, // the end, whatever it is called
		{api.Lang{Gram: api.Gram{Terms: []api.TermDef{{Name: "end"}, {}}}}, 1, []api.Node{leaf("", true, 3, -7, 9)}},
		{api.Lang{Gram: api.Gram{Terms: []api.TermDef{{}, {Name: "_x", Lit: true}}}}, 1, []api.Node{leaf("_x", false, 3, -7, 9)}},
	} {
		if got := tree.Token(c.l, c.term, 9, 3, -7); !slices.Equal(got, c.want) {
			t.Errorf("15.1: Token of %d: %+v, want %+v", c.term, got, c.want)
		}
	}
	if got := tree.Token(l, 1, math.MinInt, math.MaxInt, math.MinInt); !slices.Equal(got, []api.Node{leaf("NAME", true, math.MaxInt, math.MinInt, math.MinInt)}) {
		t.Errorf("15.1: %+v", got)
	}
}

func TestShow(t *testing.T) {
	l := chapter()
	l.Gram.Terms = append(l.Gram.Terms, api.TermDef{Name: "_lit", Lit: true}, api.TermDef{Name: "_"}, api.TermDef{Name: "a_"}, api.TermDef{})
	l.Gram.Syms = []api.Sym{{Name: "_r", Kind: api.SymHidden}, {Name: "_s", Kind: api.SymShown}}
	odd := []api.Node{{Name: "a", Kids: 3}, {Name: "b", Field: "f", Kids: -1}} // no forest: what it is is not asked
	for sym, shown := range map[int]bool{3: false, 5: false, 0: true, 1: true, 2: true, 4: true, 6: true, 7: true, 8: true, 9: true, 10: true, -1: true, math.MaxInt: true, math.MinInt: true} {
		want := odd
		if !shown {
			want = nil
		}
		if got := tree.Show(l, sym, odd); !slices.Equal(got, want) {
			t.Errorf("15.2: Show of %d: %+v", sym, got)
		}
		if got := tree.Show(l, sym, nil); len(got) != 0 {
			t.Errorf("15.2: Show of %d: %+v of nothing", sym, got)
		}
	}
}

// forestOf: the nodes x and y, x with a child z; and whether they have fields.
func forestOf(fields bool) []api.Node {
	t := []api.Node{inner("x", "", 2, 5, 1), leaf("z", false, 2, 5, 0), leaf("y", false, 6, 8, 1)}
	if fields {
		t[1].Field, t[2].Field = "h", "h"
	}
	return t
}

// Each point of 15.3: by kind of symbol, with and without a field and another name.
func TestReduce(t *testing.T) {
	g := api.Gram{
		Terms: []api.TermDef{{}, {Name: "a"}, {Name: "_b"}, {Name: "_c", Lit: true}},
		Syms:  []api.Sym{{Name: "shown", Kind: api.SymShown}, {Name: "_hidden", Kind: api.SymHidden}, {Kind: api.SymAux}, {Name: "odd", Kind: 9}},
	}
	const a, b, c, shown, hidden, aux, odd, none = 1, 2, 3, 4, 5, 6, 7, 8
	for _, x := range []struct {
		ref    api.Ref
		fields bool
		want   string
	}{
		{api.Ref{Sym: a}, false, `(x "z") "y"`},
		{api.Ref{Sym: a, Field: "f"}, false, `f: (x "z") f: "y"`},
		{api.Ref{Sym: a, Field: "f"}, true, `f: (x h: "z") h: "y"`},
		{api.Ref{Sym: a, As: "N"}, false, `(N "z") (N)`},
		{api.Ref{Sym: a, As: "N", Field: "f"}, true, `f: (N h: "z") h: (N)`},
		{api.Ref{Sym: 0, As: "N"}, false, `(N "z") (N)`},
		{api.Ref{Sym: 0}, false, `(x "z") "y"`},
		{api.Ref{Sym: b}, false, ``},
		{api.Ref{Sym: b, Field: "f"}, true, ``},
		{api.Ref{Sym: b, As: "N"}, false, `(N "z") (N)`},
		{api.Ref{Sym: b, As: "_n", Field: "f"}, true, `f: (_n h: "z") h: (_n)`},
		{api.Ref{Sym: c}, false, `(x "z") "y"`},
		{api.Ref{Sym: c, As: "N"}, false, `(N "z") (N)`},
		{api.Ref{Sym: shown}, true, `(x h: "z") h: "y"`},
		{api.Ref{Sym: shown, As: "N", Field: "f"}, true, `f: (N h: "z") h: (N)`},
		{api.Ref{Sym: hidden}, false, `(x "z") "y"`},
		{api.Ref{Sym: hidden, Field: "f"}, true, `f: (x h: "z") h: "y"`},
		{api.Ref{Sym: hidden, As: "N"}, true, `(N (x h: "z") h: "y")`},
		{api.Ref{Sym: hidden, As: "N", Field: "f"}, true, `f: (N (x h: "z") h: "y")`},
		{api.Ref{Sym: aux, As: "N", Field: "f"}, false, `f: (N (x "z") "y")`},
		{api.Ref{Sym: odd, As: "N"}, false, `(N (x "z") "y")`},
		{api.Ref{Sym: none, As: "N"}, false, `(N (x "z") "y")`},
		{api.Ref{Sym: -1, As: "N"}, false, `(N (x "z") "y")`},
		{api.Ref{Sym: math.MaxInt, As: "N"}, false, `(N (x "z") "y")`},
		{api.Ref{Sym: math.MinInt, As: "N"}, false, `(N (x "z") "y")`},
		{api.Ref{Sym: math.MinInt, Field: "f"}, false, `f: (x "z") f: "y"`},
	} {
		for lhs, head := range map[int]string{0: "shown", 1: "", 2: "", 3: "", 4: "", -1: "", math.MaxInt: "", math.MinInt: ""} {
			g.Prods = []api.Prod{{Lhs: -1}, {Lhs: lhs, Rhs: []api.Ref{x.ref}}}
			want := x.want
			if head != "" {
				want = strings.TrimSuffix("("+head+" "+want, " ") + ")"
			}
			got := tree.Reduce(api.Lang{Gram: g}, 1, [][]api.Node{forestOf(x.fields)}, []int{30, 40})
			if s := tree.Text(got); s != want {
				t.Errorf("15.3: %+v of %d: %s, want %s", x.ref, lhs, s, want)
			}
			if plain := plainReduce(g, 1, [][]api.Node{forestOf(x.fields)}, []int{30, 40}); !slices.Equal(got, plain) {
				t.Errorf("15.3: %+v of %d: %+v, want %+v", x.ref, lhs, got, plain)
			}
		}
	}
}

// Where nodes stand that have no children, and such that have.
func TestPlaces(t *testing.T) {
	g := api.Gram{
		Terms: []api.TermDef{{}, {Name: "a"}, {Name: "_b"}},
		Syms:  []api.Sym{{Name: "s", Kind: api.SymShown}, {Name: "_h", Kind: api.SymHidden}},
		Prods: []api.Prod{{Lhs: -1}, {Lhs: 0, Rhs: []api.Ref{{Sym: 4, As: "First"}, {Sym: 1}, {Sym: 4, As: "Second"}, {Sym: 2}, {Sym: 4, As: "Third"}}}, {Lhs: 0, Rhs: []api.Ref{{Sym: 2}, {Sym: 2}}}, {Lhs: 0}, {Lhs: 1, Rhs: []api.Ref{{Sym: 2, As: "x", Field: "f"}}}},
	}
	l := api.Lang{Gram: g}
	b := []api.Node{leaf("_b", true, 20, 21, 7)}
	for i, c := range []struct {
		got, want []api.Node
	}{
		{tree.Reduce(l, 1, [][]api.Node{nil, {leaf("a", true, 12, 15, 3)}, nil, b, nil}, []int{9, 9, 15, 15, 21, 21}), []api.Node{inner("s", "", 9, 21, 4), inner("First", "", 9, 9, 0), leaf("a", true, 12, 15, 3), inner("Second", "", 15, 15, 0), inner("Third", "", 21, 21, 0)}},
		{tree.Reduce(l, 1, [][]api.Node{{leaf("u", true, 1, 2, 0), leaf("v", true, 3, 4, 1)}, {leaf("a", true, 12, 15, 3)}, nil, b, {leaf("w", true, 30, 31, 8)}}, []int{0, 4, 15, 15, 21, 31}), []api.Node{inner("s", "", 1, 31, 4), inner("First", "", 1, 4, 2), leaf("u", true, 1, 2, 0), leaf("v", true, 3, 4, 1), leaf("a", true, 12, 15, 3), inner("Second", "", 15, 15, 0), inner("Third", "", 30, 31, 1), leaf("w", true, 30, 31, 8)}},
		{tree.Reduce(l, 2, [][]api.Node{b, b}, []int{19, 21, 33}), []api.Node{inner("s", "", 33, 33, 0)}}, // nothing but hidden tokens
		{tree.Reduce(l, 3, nil, []int{5}), []api.Node{inner("s", "", 5, 5, 0)}},
		{tree.Reduce(l, 3, [][]api.Node{}, []int{math.MinInt}), []api.Node{inner("s", "", math.MinInt, math.MinInt, 0)}},
		{tree.Reduce(l, 4, [][]api.Node{b}, []int{0, 0}), []api.Node{{Name: "x", Named: true, Field: "f", From: 20, To: 21, Leaf: 7}}},
	} {
		if !slices.Equal(c.got, c.want) {
			t.Errorf("15.3: %d: %+v, want %+v", i, c.got, c.want)
		}
	}
}

func TestReduceRefuses(t *testing.T) {
	l := chapter()
	forest := forestOf(false)
	for i, c := range []struct {
		prod int
		kids [][]api.Node
		ends []int
	}{
		{-1, nil, []int{0}},
		{5, nil, []int{0}},
		{math.MaxInt, nil, []int{0}},
		{math.MinInt, nil, []int{0}},
		{4, nil, []int{0}},
		{4, nil, []int{0, 1}},
		{4, [][]api.Node{forest, nil}, []int{0, 1}},
		{4, [][]api.Node{forest, nil}, []int{0, 1, 2}},
		{4, [][]api.Node{forest}, nil},
		{4, [][]api.Node{forest}, []int{0}},
		{4, [][]api.Node{forest}, []int{0, 1, 2}},
		{3, nil, nil},
		{3, [][]api.Node{nil}, []int{0, 1}},
		{4, [][]api.Node{forest[:1]}, []int{0, 1}},
		{4, [][]api.Node{{{Kids: -1}}}, []int{0, 1}},
		{4, [][]api.Node{{{Kids: math.MaxInt}, {}}}, []int{0, 1}},
		{1, [][]api.Node{forest, forest, forest, {{Kids: 1}}}, []int{0, 1, 2, 3, 4}}, // of a hidden token, which is not shown
		{1, [][]api.Node{{{Kids: 1}}, forest, forest, forest}, []int{0, 1, 2, 3, 4}},
	} {
		if got := tree.Reduce(l, c.prod, c.kids, c.ends); len(got) != 0 {
			t.Errorf("15.3: %d: %+v", i, got)
		}
	}
	if got := tree.Reduce(api.Lang{}, 0, nil, []int{0}); len(got) != 0 {
		t.Errorf("15.3: without a production: %+v", got)
	}
	if got := tree.Reduce(l, 4, [][]api.Node{forest}, []int{0, 1}); !slices.Equal(got, forest) {
		t.Errorf("15.3: what is not refused: %+v", got)
	}
}

// shape: nodes with so many children.
func shape(kids ...int) []api.Node {
	t := make([]api.Node, len(kids))
	for i, n := range kids {
		t[i] = api.Node{Name: string(rune('a' + i)), From: i, To: i + 1, Kids: n}
	}
	return t
}

func TestRoots(t *testing.T) {
	for _, c := range []struct {
		kids []int
		want int
	}{
		{nil, 0},
		{[]int{0}, 1},
		{[]int{0, 0, 0}, 3},
		{[]int{1, 0}, 1},
		{[]int{0, 1, 0}, 2},
		{[]int{2, 0, 0, 0}, 2},
		{[]int{2, 1, 0, 1, 0, 0}, 2},
		{[]int{3, 0, 0, 0}, 1},
		{[]int{1}, -1},
		{[]int{0, 1}, -1}, // its child would have to stand ahead of it
		{[]int{3, 0, 0}, -1},
		{[]int{1, 1}, -1},
		{[]int{2, 1, 0}, -1},
		{[]int{-1}, -1},
		{[]int{0, -1}, -1},
		{[]int{2, -1, 0}, -1},
		{[]int{-1, 0}, -1},
		{[]int{1, 0, -1, 2, 0}, -1},
		{[]int{math.MaxInt, 0}, -1},
		{[]int{math.MinInt, 0}, -1},
		{[]int{math.MaxInt, math.MaxInt, math.MaxInt, 0}, -1},
		{[]int{2, math.MaxInt, math.MinInt, 0}, -1},
	} {
		if n := tree.Roots(shape(c.kids...)); n != c.want {
			t.Errorf("15.4: %v: %d, want %d", c.kids, n, c.want)
		}
	}
}

// nothing fails unless nothing is told of the place.
func nothing(t *testing.T, l []api.Node, at int) {
	t.Helper()
	if n, k, p := tree.Size(l, at), tree.Kids(l, at), tree.Parent(l, at); n != 0 || len(k) != 0 || p != -1 {
		t.Errorf("15.4: %d of %+v: size %d, children %v, parent %d", at, l, n, k, p)
	}
}

func TestNoForest(t *testing.T) {
	for _, kids := range [][]int{{1}, {-1}, {0, 1}, {2, 0}, {0, 0, 0, -1}, {-1, 0, 0}, {math.MaxInt, 0}, {math.MinInt}, {1, 1}} {
		l := shape(kids...)
		for at := -1; at <= len(l); at++ {
			nothing(t, l, at)
			if p := tree.Path(l, at); len(p) != 0 {
				t.Errorf("15.4: Path of %v at %d: %v", kids, at, p)
			}
		}
		if s := tree.Text(l); s != "" {
			t.Errorf("15.4: Text of %v: %s", kids, s)
		}
		if c := tree.Walk(l); c.Place() != -1 || c.Down() || c.Next() || c.Up() || c.Place() != -1 {
			t.Errorf("15.8: Walk of %v: %d", kids, c.Place())
		}
	}
}

func TestNoNode(t *testing.T) {
	for _, l := range [][]api.Node{nil, {}, shape(0), shape(2, 1, 0, 0, 0)} {
		for _, at := range []int{-1, len(l), len(l) + 1, math.MaxInt, math.MinInt} {
			nothing(t, l, at)
			if p := tree.Path(l, at); len(p) != 0 {
				t.Errorf("15.6: Path at %d: %v", at, p)
			}
		}
	}
	if tree.Roots(nil) != 0 || tree.Text(nil) != "" || tree.Walk(nil).Place() != -1 {
		t.Error("15.4, 15.8: of no nodes")
	}
}

func TestWays(t *testing.T) {
	l := shape(3, 0, 2, 0, 1, 0, 0, 1, 0) // a(b, c(d, e(f)), g), h(i)
	for at, c := range []struct {
		size, parent int
		kids         []int
	}{{7, -1, []int{1, 2, 6}}, {1, 0, nil}, {4, 0, []int{3, 4}}, {1, 2, nil}, {2, 2, []int{5}}, {1, 4, nil}, {1, 0, nil}, {2, -1, []int{8}}, {1, 7, nil}} {
		if n, k, p := tree.Size(l, at), tree.Kids(l, at), tree.Parent(l, at); n != c.size || p != c.parent || !slices.Equal(k, c.kids) {
			t.Errorf("15.5: %d: size %d, children %v, parent %d, want %+v", at, n, k, p, c)
		}
	}
}

// The first that covers; then only its children; a node's end is not covered.
func TestPath(t *testing.T) {
	l := shape(2, 0, 0, 1, 0, 0)
	for i, r := range [][2]int{{0, 10}, {0, 4}, {3, 6}, {5, 20}, {12, 13}, {-5, math.MaxInt}} {
		l[i].From, l[i].To = r[0], r[1]
	}
	for at, want := range map[int][]int{
		-6: nil, -5: {5}, -1: {5}, 0: {0, 1}, 3: {0, 1}, 4: {0, 2}, 5: {0, 2}, 6: {0}, 9: {0}, 10: {3}, 11: {3}, 12: {3, 4}, 13: {3}, 19: {3}, 20: {5},
		math.MaxInt - 1: {5}, math.MaxInt: nil, math.MinInt: nil,
	} {
		if p := tree.Path(l, at); !slices.Equal(p, want) {
			t.Errorf("15.6: at %d: %v, want %v", at, p, want)
		}
	}
	hollow := []api.Node{inner("a", "", 4, 4, 1), inner("b", "", 0, 9, 0), inner("c", "", 7, 3, 0)} // what does not cover is not gone into
	for at := range 10 {
		if p := tree.Path(hollow, at); len(p) != 0 {
			t.Errorf("15.6: at %d: %v", at, p)
		}
	}
}

func TestText(t *testing.T) {
	named := func(name, field string, kids int) api.Node {
		return api.Node{Name: name, Named: true, Field: field, Kids: kids}
	}
	plain := func(name, field string, kids int) api.Node {
		return api.Node{Name: name, Field: field, Kids: kids}
	}
	for _, c := range []struct {
		want string
		t    []api.Node
	}{
		{`(a)`, []api.Node{named("a", "", 0)}},
		{`"a"`, []api.Node{plain("a", "", 0)}},
		{`f: (a)`, []api.Node{named("a", "f", 0)}},
		{`f: "a"`, []api.Node{plain("a", "f", 0)}},
		{`("a" "b")`, []api.Node{plain("a", "", 1), plain("b", "", 0)}},
		{`(a "b")`, []api.Node{named("a", "", 1), plain("b", "", 0)}},
		{`f: ("a" g: (b (c)) h: "d") (e)`, []api.Node{plain("a", "f", 2), named("b", "g", 1), named("c", "", 0), plain("d", "h", 0), named("e", "", 0)}},
		{`(a (b (c (d))))`, []api.Node{named("a", "", 1), named("b", "", 1), named("c", "", 1), named("d", "", 0)}},
		{`"a" "b" "c"`, []api.Node{plain("a", "", 0), plain("b", "", 0), plain("c", "", 0)}},
		{`()`, []api.Node{named("", "", 0)}},
		{`""`, []api.Node{plain("", "", 0)}},
		{"(\"\\\n\xff)", []api.Node{named("\"\\\n\xff", "", 0)}}, // a name that is Named stands as it is; so does a field
		{"\"\n: \"x\"", []api.Node{plain("x", "\"\n", 0)}},
		{`("\"" (a))`, []api.Node{plain(`"`, "", 1), named("a", "", 0)}},
		{`"\"\\\n\x09\xff~ \x7f\x1f\x00\x0d\xc3\xa9/"`, []api.Node{plain("\"\\\n\t\xff~ \x7f\x1f\x00\ré/", "", 0)}},
	} {
		if s := tree.Text(c.t); s != c.want {
			t.Errorf("15.7: %s, want %s", s, c.want)
		}
	}
	for b := range 256 {
		name := string([]byte{byte(b)})
		if s := tree.Text([]api.Node{plain(name, "", 0)}); s != plainQuoted(name) {
			t.Errorf("15.7: the byte %d: %s", b, s)
		}
	}
}

func TestCursor(t *testing.T) {
	c := tree.Walk(shape(2, 1, 0, 0, 0, 1, 0)) // a(b(c), d), e, f(g)
	for i, m := range []struct {
		move  byte
		ok    bool
		place int
	}{
		{'u', false, 0}, {'d', true, 1}, {'d', true, 2}, {'d', false, 2}, {'n', false, 2}, {'u', true, 1}, {'n', true, 3}, {'n', false, 3}, {'d', false, 3},
		{'u', true, 0}, {'n', true, 4}, {'d', false, 4}, {'u', false, 4}, {'n', true, 5}, {'n', false, 5}, {'d', true, 6}, {'n', false, 6}, {'u', true, 5}, {'u', false, 5},
	} {
		move := map[byte]func() bool{'u': c.Up, 'd': c.Down, 'n': c.Next}[m.move]
		if ok := move(); ok != m.ok || c.Place() != m.place {
			t.Fatalf("15.8: move %d (%c): %v, at %d", i, m.move, ok, c.Place())
		}
	}
}
