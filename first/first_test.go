package first_test

import (
	"math"
	"slices"
	"testing"

	"trellis/api"
	"trellis/first"
)

// chapter: the grammar of the chapter's examples: end 0, a 1, b 2, c 3; S 4, X 5, Y 6.
func chapter(syms int, more ...api.Prod) api.Gram {
	return gram(4, syms, append([]api.Prod{
		{Lhs: -1, Rhs: row(4)},
		{Lhs: 0, Rhs: row(5, 6, 3)},
		{Lhs: 1},
		{Lhs: 1, Rhs: row(1, 5)},
		{Lhs: 2, Rhs: row(2)},
		{Lhs: 2, Rhs: row(5)},
	}, more...)...)
}

// terms: the set of these tokens.
func terms(l ...int) api.Terms {
	var out api.Terms
	for _, t := range l {
		out |= 1 << t
	}
	return out
}

func TestExamples(t *testing.T) {
	nullable := []bool{false, false, false, false, false, true, true}
	begin := []api.Terms{terms(0), terms(1), terms(2), terms(3), terms(1, 2, 3), terms(1), terms(1, 2)}
	for i, g := range []api.Gram{chapter(3), chapter(4), chapter(4, api.Prod{Lhs: 3, Rhs: row(7, 1)})} {
		if i == 1 {
			nullable, begin = append(nullable, false), append(begin, 0)
		}
		if n := first.Nullable(g); !slices.Equal(n, nullable) {
			t.Errorf("11.1: %d: %v, want %v", i, n, nullable)
		}
		if f := first.First(g); !slices.Equal(f, begin) {
			t.Errorf("11.2: %d: %v, want %v", i, f, begin)
		}
	}
}

func TestExamplesOfRows(t *testing.T) {
	all := ^api.Terms(0)
	for _, c := range []struct {
		row          []api.Ref
		behind, want api.Terms
	}{
		{row(5, 6), terms(0), terms(0, 1, 2)},
		{row(3, 5), terms(0), terms(3)},
		{nil, terms(2), terms(2)},
		{[]api.Ref{}, 0, 0},
		{nil, all, all},                 // bits that are no token's
		{row(5), 1 << 63, terms(1, 63)}, // one of them
		{row(4), all, terms(1, 2, 3)},   // S never vanishes
		{row(6, 5, 5), terms(3), terms(1, 2, 3)},
		{row(0), all, terms(0)},
		{row(0, 99), all, 0}, // no symbol, though nothing behind the end counts
		{row(99), terms(0), 0},
		{row(7), terms(0), 0}, // one too great
		{row(-1), terms(0), 0},
		{row(5, 6, math.MaxInt), all, 0},
		{row(math.MinInt, 5), all, 0},
	} {
		if s := first.Of(chapter(3), c.row, c.behind); s != c.want {
			t.Errorf("11.3: Of(%v, %b) = %b, want %b", c.row, c.behind, s, c.want)
		}
	}
	if s := first.Of(gram(0, 0), nil, all); s != 0 {
		t.Errorf("11.3: of a grammar without tokens: %b", s)
	}
}

// Each limit of a sound grammar, and one beyond it.
func TestSound(t *testing.T) {
	with := func(p api.Prod) api.Gram { return chapter(3, p) }
	for i, c := range []struct {
		g  api.Gram
		ok bool
	}{
		{gram(0, 0), false},
		{gram(0, 1), false},
		{gram(1, 0), true},
		{gram(64, 0), true},
		{gram(65, 0), false},
		{gram(1, 128), true},
		{gram(1, 129), false},
		{gram(64, 128), true},
		{gram(65, 128), false},
		{gram(0, 129), false},
		{gram(1, 0, api.Prod{Lhs: -1}), true},
		{gram(1, 0, api.Prod{Lhs: 0}), false},
		{with(api.Prod{Lhs: -1, Rhs: row(6)}), true},
		{with(api.Prod{Lhs: 2, Rhs: row(6)}), true},
		{with(api.Prod{Lhs: 3}), false},
		{with(api.Prod{Lhs: -2}), false},
		{with(api.Prod{Lhs: math.MaxInt}), false},
		{with(api.Prod{Lhs: math.MinInt}), false},
		{with(api.Prod{Lhs: 0, Rhs: row(0)}), true},
		{with(api.Prod{Lhs: 0, Rhs: row(7)}), false},
		{with(api.Prod{Lhs: 0, Rhs: row(-1)}), false},
		{with(api.Prod{Lhs: 0, Rhs: row(1, 2, 7)}), false}, // behind a token
		{with(api.Prod{Lhs: -1, Rhs: row(7)}), false},      // of what replaces nothing
		{with(api.Prod{Lhs: -1, Rhs: row(-1)}), false},
		{with(api.Prod{Lhs: 1, Rhs: row(math.MaxInt)}), false},
		{with(api.Prod{Lhs: 1, Rhs: row(math.MinInt)}), false},
		{with(api.Prod{Lhs: 1, Rhs: []api.Ref{{Sym: 5, Field: "\xff", As: "?"}}}), true},                                                             // names do not count
		{api.Gram{Terms: make([]api.TermDef, 2), Syms: []api.Sym{{Kind: -7}, {Kind: 99}}, Prods: []api.Prod{{Lhs: 1, Rhs: row(3)}, {Lhs: 1}}}, true}, // kinds neither, nor whether a symbol is of use
	} {
		want := 0
		if c.ok {
			want = len(c.g.Terms) + len(c.g.Syms)
		}
		n, f, o := first.Nullable(c.g), first.First(c.g), first.Of(c.g, nil, 7)
		if len(n) != want || len(f) != want || (o == 7) != c.ok || (o == 0) == c.ok {
			t.Errorf("11.1 to 11.3: %d: %d truths, %d sets, %b of nothing; sound: %v", i, len(n), len(f), o, c.ok)
		}
	}
}

// A production of no Sym replaces nothing, wherever it stands; and the production 0 replaces, if it is of a Sym.
func TestNoSym(t *testing.T) {
	g := gram(2, 2, api.Prod{Lhs: 0, Rhs: row(1)}, api.Prod{Lhs: -1}, api.Prod{Lhs: -1, Rhs: row(0)})
	if n := first.Nullable(g); !slices.Equal(n, []bool{false, false, false, false}) {
		t.Errorf("11.1: %v", n)
	}
	if f := first.First(g); !slices.Equal(f, []api.Terms{terms(0), terms(1), terms(1), 0}) {
		t.Errorf("11.2: %v", f)
	}
}

// chain: each Sym becomes the next one, the last one what is handed in; backwards: the productions in the other order.
func chain(backwards bool, last ...api.Prod) api.Gram {
	g := gram(64, 128)
	for i := range 127 {
		g.Prods = append(g.Prods, api.Prod{Lhs: i, Rhs: row(64 + i + 1)})
	}
	g.Prods = append(g.Prods, last...)
	if backwards {
		slices.Reverse(g.Prods)
	}
	return g
}

// What is far away comes to the greatest grammar's first symbol, too.
func TestFar(t *testing.T) {
	for _, backwards := range []bool{false, true} {
		g := chain(backwards, api.Prod{Lhs: 127}, api.Prod{Lhs: 127, Rhs: row(63)}, api.Prod{Lhs: 127, Rhs: row(64, 0)})
		n, f := first.Nullable(g), first.First(g)
		if len(n) != 192 || len(f) != 192 {
			t.Fatalf("11.1, 11.2: %d truths, %d sets", len(n), len(f))
		}
		for i := range 192 {
			switch {
			case i < 64 && (n[i] || f[i] != terms(i)):
				t.Errorf("11.1, 11.2: the token %d: %v, %b", i, n[i], f[i])
			case i >= 64 && (!n[i] || f[i] != terms(0, 63)):
				t.Errorf("11.1, 11.2: the Sym %d: %v, %b", i-64, n[i], f[i])
			}
		}
	}
	// first it has to be found that each vanishes, one after the other, then that the token comes along
	g := chain(false)
	for i := range g.Prods {
		g.Prods[i].Rhs = row(64+i+1, 64+i+1, 64)
	}
	g.Prods = append(g.Prods, api.Prod{Lhs: 127}, api.Prod{Lhs: 0, Rhs: row(5)})
	for i, s := range first.First(g) {
		if i >= 64 && i < 191 && s != terms(5) || i == 191 && s != 0 {
			t.Errorf("11.2: the Sym %d: %b", i-64, s)
		}
	}
}
