package items_test

import (
	"math"
	"slices"
	"testing"

	"trellis/api"
	"trellis/defn"
	"trellis/grammar"
	"trellis/items"
)

// pairs: the grammar of the chapter's examples: end 0, a 1, b 2; S 3, X 4.
func pairs() api.Gram { return gram(3, 2, prod(0, 4, 4), prod(1, 1, 4), prod(1, 2)) }

func TestExamplesOfClosure(t *testing.T) {
	left := gram(2, 1, prod(0, 2, 1), prod(0))
	for _, c := range []struct {
		g       api.Gram
		l, want string
	}{
		{pairs(), "0.0/0", "0.0/0 1.0/0 2.0/1 2.0/2 3.0/1 3.0/2"},
		{pairs(), "1.1/0", "1.1/0 2.0/0 3.0/0"},
		{pairs(), "2.1/1 2.1/2", "2.0/1 2.0/2 2.1/1 2.1/2 3.0/1 3.0/2"},
		{pairs(), "9.0/0", ""},
		{left, "0.0/0", "0.0/0 1.0/0 1.0/1 2.0/0 2.0/1"},
		{api.Gram{}, "0.0/0", ""},
		{pairs(), "", ""},
		{pairs(), "3.1/2 1.2/1 0.1/0", "0.1/0 1.2/1 3.1/2"}, // nothing is behind these dots: they are sorted
		{pairs(), "3.0/1 3.0/1 3.0/0", "3.0/0 3.0/1"},       // a token is
		{pairs(), "3.0/2 1.1/1 2.0/0", "1.1/1 2.0/0 2.0/1 3.0/1 3.0/2"},
		{pairs(), "0.0/2", "0.0/2 1.0/2 2.0/1 2.0/2 3.0/1 3.0/2"}, // any Look
		// what is no item does not count
		{pairs(), "4.0/0 -1.0/0 0.2/0 0.-1/0 3.2/0 0.0/3 0.0/-1 1.3/0", ""},
		{pairs(), "4.0/0 1.1/0 0.0/3", "1.1/0 2.0/0 3.0/0"},
	} {
		if s := items.Closure(c.g, list(c.l)); !slices.Equal(s, list(c.want)) {
			t.Errorf("12.1: Closure of %s: %v, want %s", c.l, s, c.want)
		}
	}
	for _, n := range []int{math.MinInt, math.MaxInt, 1 << 32, 64} {
		if s := items.Closure(pairs(), []api.Item{{Prod: n}, {Dot: n}, {Look: n}, {Prod: n, Dot: n, Look: n}}); len(s) != 0 {
			t.Errorf("12.1: with %d: %v", n, s)
		}
	}
}

// What stands behind the Sym may vanish, wholly or in part; or nothing may begin it.
func TestLooks(t *testing.T) {
	// end 0, a 1, b 2, c 3; S 4, X 5, Y 6, Z 7, which has no production
	g := gram(4, 4,
		prod(0, 5, 6, 6), // S -> X Y Y
		prod(0, 5, 7, 1), // S -> X Z a
		prod(1),          // X ->
		prod(1, 3, 5),    // X -> c X
		prod(2),          // Y ->
		prod(2, 2),       // Y -> b
		prod(0, 6, 7),    // S -> Y Z
	)
	for _, c := range []struct{ l, want string }{
		{"0.0/0", "0.0/0 1.0/0 2.0/0 3.0/0 3.0/2 4.0/0 4.0/2 7.0/0"}, // nothing of 5 and 6: nothing begins what is behind Y in 7
		{"1.1/3", "1.1/3 5.0/2 5.0/3 6.0/2 6.0/3"},
		{"1.2/3", "1.2/3 5.0/3 6.0/3"},
		{"2.0/0", "2.0/0"},
		{"2.1/0", "2.1/0"}, // Z brings nothing
		{"4.1/1 4.1/2", "3.0/1 3.0/2 4.0/1 4.0/2 4.1/1 4.1/2"},
	} {
		if s := items.Closure(g, list(c.l)); !slices.Equal(s, list(c.want)) {
			t.Errorf("12.1: Closure of %s: %v, want %s", c.l, s, c.want)
		}
	}
}

func TestExamplesOfGoto(t *testing.T) {
	for _, c := range []struct {
		l    string
		sym  int
		want string
	}{
		{"0.0/0", 4, "1.1/0 2.0/0 3.0/0"},
		{"0.0/0", 2, "3.1/1 3.1/2"},
		{"0.0/0", 0, ""},
		{"0.0/0", 3, "0.1/0"},
		{"0.0/0", 1, "2.0/1 2.0/2 2.1/1 2.1/2 3.0/1 3.0/2"},
		{"0.1/0", 3, ""}, // the dot is at the end
		{"1.1/0", 4, "1.2/0"},
		{"3.0/1 3.0/2 3.1/0", 2, "3.1/1 3.1/2"},
		{"9.0/0 2.1/0", 4, "2.2/0"},
		{"9.0/0", 4, ""},
		{"", 4, ""},
		{"0.0/0", 5, ""}, // no symbol
		{"0.0/0", -1, ""},
		{"0.0/0", math.MaxInt, ""},
		{"0.0/0", math.MinInt, ""},
	} {
		if s := items.Goto(pairs(), list(c.l), c.sym); !slices.Equal(s, list(c.want)) {
			t.Errorf("12.2: Goto of %s by %d: %v, want %s", c.l, c.sym, s, c.want)
		}
	}
}

func TestExamplesOfSets(t *testing.T) {
	sets, gotos, code := items.Sets(pairs())
	if code != api.OK || len(sets) != 10 || len(gotos) != 10 {
		t.Fatalf("12.3: %d, %d sets, %d lists", code, len(sets), len(gotos))
	}
	none := []int{-1, -1, -1, -1, -1}
	for i, want := range []struct {
		set   string
		gotos []int
	}{
		{"0.0/0 1.0/0 2.0/1 2.0/2 3.0/1 3.0/2", []int{-1, 1, 2, 3, 4}},
		{"2.0/1 2.0/2 2.1/1 2.1/2 3.0/1 3.0/2", []int{-1, 1, 2, -1, 5}},
		{"3.1/1 3.1/2", none},
		{"0.1/0", none},
		{"1.1/0 2.0/0 3.0/0", []int{-1, 6, 7, -1, 8}},
		{"2.2/1 2.2/2", none},
		{"2.0/0 2.1/0 3.0/0", []int{-1, 6, 7, -1, 9}},
		{"3.1/0", none},
		{"1.2/0", none},
		{"2.2/0", none},
	} {
		if !slices.Equal(sets[i], list(want.set)) || !slices.Equal(gotos[i], want.gotos) {
			t.Errorf("12.3: the set %d: %v, %v, want %s, %v", i, sets[i], gotos[i], want.set, want.gotos)
		}
	}
}

// With S -> X A, X -> a, A -> b: X, not a, leads to a set in which A -> . b stands (12.5).
func TestExampleOfMeaning(t *testing.T) {
	g := gram(3, 3, prod(0, 4, 5), prod(1, 1), prod(2, 2)) // S 3, X 4, A 5
	sets, gotos, _ := items.Sets(g)
	if s := sets[lead(gotos, row(4))]; !slices.Equal(s, list("1.1/0 3.0/0")) {
		t.Errorf("12.5: X leads to %v", s)
	}
	if s := sets[lead(gotos, row(1))]; !slices.Equal(s, list("2.1/2")) {
		t.Errorf("12.5: a leads to %v", s)
	}
	if lead(gotos, row(1, 2)) != -1 || lead(gotos, row(1, 5)) != -1 {
		t.Error("12.5: a leads on, though nothing in what is ahead is replaced")
	}
}

// Each limit of a right grammar, and one beyond it.
func TestRight(t *testing.T) {
	with := func(p api.Prod) api.Gram { return gram(3, 2, prod(0, 4, 4), p) }
	zero := func(p api.Prod) api.Gram {
		g := pairs()
		g.Prods[0] = p
		return g
	}
	bare := func(tokens, syms int, p ...api.Prod) api.Gram {
		return api.Gram{Terms: make([]api.TermDef, tokens), Syms: make([]api.Sym, syms), Prods: p}
	}
	for i, c := range []struct {
		g  api.Gram
		ok bool
	}{
		{api.Gram{}, false},
		{gram(0, 1), false},
		{gram(1, 1), true},
		{gram(64, 1), true},
		{gram(65, 1), false},
		{gram(1, 0), false}, // the Ref of production 0 is to no Sym
		{gram(3, 128), true},
		{gram(3, 129), false},
		{gram(64, 128), true},
		{gram(64, 129), false},
		{gram(65, 128), false},
		{bare(3, 2), false}, // no production 0
		{bare(3, 2, prod(-1, 3)), true},
		{zero(prod(0, 3)), false},
		{zero(prod(-2, 3)), false},
		{zero(prod(math.MinInt, 3)), false},
		{zero(prod(-1)), false},
		{zero(prod(-1, 3, 3)), false},
		{zero(prod(-1, 3, 1)), false},
		{zero(prod(-1, 4)), false}, // the second Sym
		{zero(prod(-1, 2)), false},
		{zero(prod(-1, 0)), false},
		{zero(prod(-1, 5)), false},
		{zero(prod(-1, -1)), false},
		{with(prod(1)), true},
		{with(prod(1, 4)), true},
		{with(prod(2)), false},
		{with(prod(-1, 3)), false}, // just one is of no Sym
		{with(prod(-1)), false},
		{with(prod(-2)), false},
		{with(prod(math.MaxInt)), false},
		{with(prod(math.MinInt)), false},
		{with(prod(1, 1)), true},
		{with(prod(1, 0)), false}, // the end
		{with(prod(1, 1, 0)), false},
		{with(prod(1, 0, 1)), false},
		{with(prod(1, 5)), false},
		{with(prod(1, 1, 4, 5)), false},
		{with(prod(1, -1)), false},
		{with(prod(1, math.MaxInt)), false},
		{with(prod(1, math.MinInt)), false},
		{with(prod(0, 4, 4)), true}, // the same as another one
	} {
		shape := api.ErrShape
		if c.ok {
			shape = api.OK
		}
		l, next := items.Closure(c.g, list("0.0/0")), items.Goto(c.g, list("0.0/0"), len(c.g.Terms))
		sets, gotos, code := items.Sets(c.g)
		if (len(l) > 0) != c.ok || (len(next) > 0) != c.ok || (len(sets) > 0) != c.ok || len(gotos) != len(sets) || code != shape {
			t.Errorf("12.1 to 12.3: %d: %v, %v, %d, %d sets; right: %v", i, l, next, code, len(sets), c.ok)
		}
	}
}

// line: one production of n tokens: n + 2 sets.
func line(n int) api.Gram { return gram(2, 1, api.Prod{Rhs: slices.Repeat(row(1), n)}) }

// fan: a production of n times one token, and more of one other token each: with the set 0 come many sets at once.
func fan(n, more int) api.Gram {
	g := gram(64, 1, api.Prod{Rhs: slices.Repeat(row(1), n)})
	for i := range more {
		g.Prods = append(g.Prods, prod(0, 2+i))
	}
	return g
}

// 12.3: MaxStates sets are not too many.
func TestStates(t *testing.T) {
	for i, c := range []struct {
		g    api.Gram
		sets int
	}{
		{line(0), 2},
		{line(api.MaxStates - 3), api.MaxStates - 1},
		{line(api.MaxStates - 2), api.MaxStates},
		{line(api.MaxStates - 1), api.MaxStates + 1},
		{line(api.MaxStates), api.MaxStates + 2},
		{line(1 << 20), 1<<20 + 2},
		{fan(api.MaxStates-32, 30), api.MaxStates},
		{fan(api.MaxStates-32, 31), api.MaxStates + 1},
		{fan(api.MaxStates-32, 60), api.MaxStates + 30},
	} {
		sets, gotos, code := items.Sets(c.g)
		if c.sets > api.MaxStates {
			if code != api.ErrStates || len(sets) != 0 || len(gotos) != 0 {
				t.Errorf("12.3, P4: %d: %d, %d sets, %d lists", i, code, len(sets), len(gotos))
			}
		} else if code != api.OK || len(sets) != c.sets || len(gotos) != c.sets {
			t.Errorf("12.3: %d: %d, %d sets, %d lists, want %d", i, code, len(sets), len(gotos), c.sets)
		}
	}
}

// Sets whose items are written alike if nothing parts their numbers are not the same.
func TestUnlike(t *testing.T) {
	var fill []api.Prod
	for len(fill) < 9 {
		fill = append(fill, prod(0, 3, 3, 3))
	}
	// 1.11/0 and 11.1/0
	long := prod(0, 1, 2, 2, 2, 2, 2, 2, 2, 2, 2, 2, 1)
	g := gram(4, 1, append(append([]api.Prod{long}, fill...), prod(0, 2, 2))...)
	sameAsPlain(t, g)
	// 4.1/0 4.1/4 and 4.11/0
	deep := prod(1, 1, 2, 2, 2, 2, 2, 2, 2, 2, 2, 2, 1)
	sameAsPlain(t, gram(6, 2, prod(0, 7), prod(0, 7, 4), prod(0, 3, 7), deep))
	// 1.1/0 1.1/4 2.1/0 and 1.1/0 12.1/0
	more := []api.Prod{prod(1, 1), prod(2, 1), prod(0, 7), prod(0, 7, 4), prod(0, 8), prod(0, 2, 7), prod(0, 2, 9)}
	for len(more) < 11 {
		more = append(more, prod(0, 3, 3, 3))
	}
	sameAsPlain(t, gram(6, 4, append(more, prod(3, 1))...))
	// 4.1/0 and 4.1/0 4.1/n
	for n := 3; n < 64; n++ {
		sameAsPlain(t, gram(64, 2, prod(0, 65), prod(0, 65, n), prod(0, 2, 65), prod(1, 1)))
	}
}

func sameAsPlain(t *testing.T, g api.Gram) {
	t.Helper()
	sets, gotos, code := items.Sets(g)
	wantSets, wantGotos, _ := plain{g}.sets(api.MaxStates)
	if code != api.OK || !slices.EqualFunc(sets, wantSets, slices.Equal) || !slices.EqualFunc(gotos, wantGotos, slices.Equal) {
		t.Fatalf("12.3: Sets(%v) = %v, %v, %d, want %v, %v", g, sets, gotos, code, wantSets, wantGotos)
	}
}

// What grammar.Build answers is right.
func TestDefinitions(t *testing.T) {
	for _, text := range []string{
		`language l; rule s = "a";`,
		`language l; token a /a/; rule s = (a | "x")* f: t; rule t = a@b | ();`,
		`language l; token n /[0-9]+/; rule sum = sum "+" product | product; rule product = product "*" part | part; rule part = n | "(" sum ")";`,
		`language l; rule s = x y "c"; rule x = ("a" x)?; rule y = "b" | x;`,
	} {
		d, _, code, _ := defn.Parse(text)
		g, _, flaw := grammar.Build(d)
		if code != api.OK || flaw.Code != api.OK || !isRight(g) {
			t.Fatalf("%s: %d, %v", text, code, flaw)
		}
		sameAsPlain(t, g)
	}
}
