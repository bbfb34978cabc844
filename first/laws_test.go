package first_test

import (
	"math"
	"math/rand"
	"reflect"
	"slices"
	"testing"
	"time"

	"trellis/api"
	"trellis/first"
)

// enough: fails if one of the kinds has come up too seldom for the test to tell anything.
func enough(t *testing.T, least int, seen map[string]int, kinds ...string) {
	t.Helper()
	for _, k := range kinds {
		if seen[k] < least {
			t.Errorf("only %d of %q: %v", seen[k], k, seen)
		}
	}
}

// kinds: what sorts of symbols there are among the answers.
func kinds(g api.Gram, s given, seen map[string]int) {
	for i := len(g.Terms); i < len(s.tokens); i++ {
		n := size(s.tokens[i])
		switch {
		case n == 0 && s.vanishes[i]:
			seen["nothing but nothing"]++
		case n == 0:
			seen["barren"]++
		case s.vanishes[i]:
			seen["may vanish"]++
		case n == 1:
			seen["one token"]++
		default:
			seen["many tokens"]++
		}
	}
}

var allKinds = []string{"nothing but nothing", "barren", "may vanish", "one token", "many tokens"}

// 11.1, 11.2, 11.3 against the chapter's words.
func TestModel(t *testing.T) {
	r := rand.New(rand.NewSource(1))
	seen := map[string]int{}
	for range 12000 {
		g := anyGram(r, 6, 5, 20)
		p := plain{g}
		n, f := first.Nullable(g), first.First(g)
		kinds(g, given{f, n}, seen)
		if want := p.nullable(); !slices.Equal(n, want) {
			t.Fatalf("11.1: Nullable(%v) = %v, want %v", g, n, want)
		}
		if want := p.first(); !slices.Equal(f, want) {
			t.Fatalf("11.2: First(%v) = %v, want %v", g, f, want)
		}
		for range 4 {
			l, behind := anyRow(r, g, 5), anyTerms(r)
			if s, want := first.Of(g, l, behind), p.of(l, behind); s != want {
				t.Fatalf("11.3: Of(%v, %v, %b) = %b, want %b", g, l, behind, s, want)
			}
		}
	}
	enough(t, 500, seen, allKinds...)
}

// 11.4, and what holds between the calls; greater grammars, too.
func TestClosed(t *testing.T) {
	r := rand.New(rand.NewSource(2))
	seen := map[string]int{}
	for i := range 400 {
		g := anyGram(r, 64, []int{3, 20, 128}[i%3], []int{8, 60, 400}[i%3])
		s := answered(g)
		kinds(g, s, seen)
		if !s.closed(g) {
			t.Fatalf("11.4: %v: %v", g, s)
		}
		for _, p := range g.Prods {
			if p.Lhs < 0 {
				continue
			}
			x := len(g.Terms) + p.Lhs
			if first.Of(g, p.Rhs, 0)&^s.tokens[x] != 0 {
				t.Fatalf("11.4: %v: First of %d has not all of %v", g, x, p.Rhs)
			}
			if i%3 == 0 && (plain{g}).vanishes(p.Rhs) && !s.vanishes[x] {
				t.Fatalf("11.4: %v: %d should vanish as %v does", g, x, p.Rhs)
			}
		}
		for x, l := range symbols(g) {
			want, gone := s.along(l)
			if o := first.Of(g, l, 0); o != want {
				t.Fatalf("11.2, 11.3: %v: of %d First has %b, Of %b", g, x, want, o)
			}
			if o := first.Of(g, l, ^api.Terms(0)); gone != (o == ^api.Terms(0)) && size(want) < 64 {
				t.Fatalf("11.1, 11.3: %v: of %d Nullable has %v, Of %b", g, x, gone, o)
			}
		}
	}
	enough(t, 200, seen, allKinds...)
}

// all: all sets and truths that can be given to the Syms, the tokens having just themselves.
func all(g api.Gram, use func(given)) {
	t, n := len(g.Terms), len(g.Terms)+len(g.Syms)
	for code := range 1 << ((t + 1) * len(g.Syms)) {
		s := given{make([]api.Terms, n), make([]bool, n)}
		for i := range n {
			if i < t {
				s.tokens[i] = 1 << i
				continue
			}
			part := code >> ((t + 1) * (i - t))
			s.tokens[i] = api.Terms(part) & (1<<t - 1)
			s.vanishes[i] = part>>t&1 == 1
		}
		use(s)
	}
}

// 11.5 of small grammars: whatever is given. What all that are closed have in common is just what is answered.
func TestLeast(t *testing.T) {
	r := rand.New(rand.NewSource(3))
	closed := 0
	for range 4000 {
		g := anyGram(r, 3, 3, 5)
		if (len(g.Terms)+1)*len(g.Syms) > 10 {
			continue
		}
		ours := answered(g)
		common := given{make([]api.Terms, len(ours.tokens)), make([]bool, len(ours.tokens))}
		for i := range common.tokens {
			common.tokens[i], common.vanishes[i] = ^api.Terms(0), true
		}
		all(g, func(s given) {
			if !s.closed(g) {
				return
			}
			closed++
			if !s.holds(ours) {
				t.Fatalf("11.5: %v: %v is closed, and has less than %v", g, s, ours)
			}
			for i := range s.tokens {
				common.tokens[i] &= s.tokens[i]
				common.vanishes[i] = common.vanishes[i] && s.vanishes[i]
			}
		})
		if !slices.Equal(common.tokens, ours.tokens) || !slices.Equal(common.vanishes, ours.vanishes) {
			t.Fatalf("11.5: %v: %v, the least is %v", g, ours, common)
		}
	}
	if closed < 5000 {
		t.Errorf("only %d were closed", closed)
	}
}

// 11.5 of greater ones: tokens may have more than themselves, and vanish; all is closed by what must be put in.
func TestLeastOfMore(t *testing.T) {
	r := rand.New(rand.NewSource(4))
	for range 400 {
		g := anyGram(r, 64, 30, 60)
		ours := answered(g)
		s := given{slices.Clone(ours.tokens), make([]bool, len(ours.tokens))}
		for i := range s.tokens {
			s.tokens[i] = 0
			if i < len(g.Terms) {
				s.tokens[i] = 1 << i
			}
			if r.Intn(8) == 0 {
				s.tokens[i] |= anyTerms(r)
			}
			s.vanishes[i] = r.Intn(12) == 0
		}
		for !s.closed(g) {
			for _, p := range g.Prods {
				if p.Lhs >= 0 {
					tokens, gone := s.along(p.Rhs)
					s.tokens[len(g.Terms)+p.Lhs] |= tokens
					s.vanishes[len(g.Terms)+p.Lhs] = s.vanishes[len(g.Terms)+p.Lhs] || gone
				}
			}
		}
		if !s.holds(ours) {
			t.Fatalf("11.5: %v: %v is closed, and has less than %v", g, s, ours)
		}
	}
}

// derive: one Sym of the row, whichever, is replaced by one of its right sides; false if there is none.
func derive(r *rand.Rand, p plain, l []api.Ref) ([]api.Ref, bool) {
	var places []int
	for i, s := range l {
		if len(p.rights(s.Sym)) > 0 {
			places = append(places, i)
		}
	}
	if len(places) == 0 {
		return nil, false
	}
	i := places[r.Intn(len(places))]
	rights := p.rights(l[i].Sym)
	return slices.Concat(l[:i], rights[r.Intn(len(rights))], l[i+1:]), true
}

// 11.6.
func TestEveryDerivation(t *testing.T) {
	r := rand.New(rand.NewSource(5))
	seen := map[string]int{}
	for range 3000 {
		g := anyGram(r, 5, 5, 12)
		p := plain{g}
		start, behind := anyRow(r, g, 4), anyTerms(r)
		none, some := first.Of(g, start, 0), first.Of(g, start, behind)
		for range 8 {
			l := start
			for range 25 {
				if len(l) == 0 {
					seen["nothing left"]++
					if behind&^some != 0 {
						t.Fatalf("11.6: %v: nothing is left of %v, but of %b there is %b", g, start, behind, some)
					}
				} else if l[0].Sym < len(g.Terms) {
					seen["a token first"]++
					if none&(1<<l[0].Sym) == 0 {
						t.Fatalf("11.6: %v: %v becomes %v, but begins with %b", g, start, l, none)
					}
				}
				next, ok := derive(r, p, l)
				if !ok || len(next) > 40 {
					break
				}
				l = next
			}
		}
	}
	enough(t, 1000, seen, "nothing left", "a token first")
}

// 11.7: of rows of symbols, cut anywhere.
func TestRows(t *testing.T) {
	r := rand.New(rand.NewSource(6))
	for range 1500 {
		g := anyGram(r, 64, 12, 30)
		l, behind := anyRow(r, g, 6), anyTerms(r)
		whole := first.Of(g, l, behind)
		for i := range len(l) + 1 {
			if s := first.Of(g, l[:i], first.Of(g, l[i:], behind)); s != whole {
				t.Fatalf("11.7: %v: Of(%v, %b) = %b, cut at %d it is %b", g, l, behind, whole, i, s)
			}
		}
	}
}

// spoil: numbers of which one may be none of a symbol's.
func spoil(r *rand.Rand, g api.Gram, l []api.Ref) {
	odd := []int{-1, -2, math.MinInt, math.MaxInt, len(g.Terms) + len(g.Syms), len(g.Terms) + len(g.Syms) - 1, 63, 64, 191, 192, 1 << 32}
	for i := range l {
		if r.Intn(10) == 0 {
			l[i].Sym = odd[r.Intn(len(odd))]
		}
	}
}

// isSound: the chapter's words.
func isSound(g api.Gram) bool {
	symbol := func(r api.Ref) bool { return 0 <= r.Sym && r.Sym < len(g.Terms)+len(g.Syms) }
	for _, p := range g.Prods {
		for _, r := range p.Rhs {
			if !symbol(r) {
				return false
			}
		}
		if p.Lhs != -1 && (p.Lhs < 0 || p.Lhs >= len(g.Syms)) {
			return false
		}
	}
	return 1 <= len(g.Terms) && len(g.Terms) <= 64 && len(g.Syms) <= 128
}

// P1: whatever is given; and what is not sound has no answer.
func TestAnything(t *testing.T) {
	r := rand.New(rand.NewSource(7))
	seen := map[string]int{}
	for range 8000 {
		g := anyGram(r, 4, 4, 6)
		switch r.Intn(12) {
		case 0:
			g.Terms = make([]api.TermDef, r.Intn(70))
		case 1:
			g.Syms = make([]api.Sym, r.Intn(140))
		}
		for i := range g.Prods {
			spoil(r, g, g.Prods[i].Rhs)
			if r.Intn(12) == 0 {
				g.Prods[i].Lhs = []int{-2, math.MinInt, math.MaxInt, len(g.Syms), len(g.Syms) - 1}[r.Intn(5)]
			}
		}
		var l []api.Ref
		if len(g.Terms) > 0 {
			l = anyRow(r, g, 3)
			spoil(r, g, l)
		}
		n, f, o := first.Nullable(g), first.First(g), first.Of(g, l, ^api.Terms(0))
		if !isSound(g) {
			seen["not sound"]++
			if len(n) != 0 || len(f) != 0 || o != 0 {
				t.Fatalf("11.1 to 11.3: %v is not sound: %v, %v, %b", g, n, f, o)
			}
			continue
		}
		if len(n) != len(g.Terms)+len(g.Syms) || len(f) != len(n) {
			t.Fatalf("11.1, 11.2: %v is sound: %v, %v", g, n, f)
		}
		if slices.ContainsFunc(l, func(r api.Ref) bool { return r.Sym < 0 || r.Sym >= len(n) }) {
			seen["no symbol"]++
			if o != 0 {
				t.Fatalf("11.3: Of(%v, %v) = %b", g, l, o)
			}
			continue
		}
		seen["sound"]++
	}
	enough(t, 300, seen, "not sound", "no symbol", "sound")
	first.Nullable(api.Gram{})
	first.First(api.Gram{})
	first.Of(api.Gram{}, nil, 0)
}

// roomy: the same with spare room behind each list, and what is in it.
func roomy(g api.Gram) api.Gram {
	refs := func(l []api.Ref) []api.Ref { return append(slices.Clone(l), row(1, -5, 99)...)[:len(l)] }
	out := api.Gram{
		Terms: append(slices.Clone(g.Terms), api.TermDef{Name: "spare"})[:len(g.Terms)],
		Syms:  append(slices.Clone(g.Syms), api.Sym{Name: "spare"})[:len(g.Syms)],
		Prods: append(slices.Clone(g.Prods), api.Prod{Lhs: -3})[:len(g.Prods)],
	}
	for i := range out.Prods {
		out.Prods[i].Rhs = refs(out.Prods[i].Rhs)
	}
	return out
}

// whole: a copy with all that is in the spare room.
func whole(g api.Gram) api.Gram {
	out := api.Gram{Terms: slices.Clone(g.Terms[:cap(g.Terms)]), Syms: slices.Clone(g.Syms[:cap(g.Syms)]), Prods: slices.Clone(g.Prods[:cap(g.Prods)])}
	for i := range out.Prods {
		out.Prods[i].Rhs = slices.Clone(out.Prods[i].Rhs[:cap(out.Prods[i].Rhs)])
	}
	return out
}

// P2, P3: nothing that is handed in is changed, nothing that is handed out is held; the same is answered again.
func TestMemory(t *testing.T) {
	r := rand.New(rand.NewSource(8))
	for range 400 {
		g := roomy(anyGram(r, 6, 6, 12))
		l := append(anyRow(r, g, 5), row(1, -5)...)
		copied, kept := whole(g), slices.Clone(l)
		ask := func() (given, api.Terms) { return answered(g), first.Of(g, l[:len(l)-2], 8) }
		one, set := ask()
		want := given{slices.Clone(one.tokens), slices.Clone(one.vanishes)}
		tokens, vanishes := one.tokens[:cap(one.tokens)], one.vanishes[:cap(one.vanishes)]
		for i := range tokens {
			tokens[i] = ^tokens[i]
		}
		for i := range vanishes {
			vanishes[i] = !vanishes[i]
		}
		two, again := ask()
		if !reflect.DeepEqual(two, want) || again != set {
			t.Fatalf("P2, P3: %v: %v, %b, then %v, %b", g, want, set, two, again)
		}
		if !reflect.DeepEqual(whole(g), copied) || !slices.Equal(l, kept) {
			t.Fatalf("P2: %v has been changed", copied)
		}
	}
}

// The order of the productions, and one that stands twice, change nothing; what has been asked ahead neither (P3).
func TestOrder(t *testing.T) {
	r := rand.New(rand.NewSource(9))
	for range 500 {
		g := anyGram(r, 20, 20, 50)
		want := answered(g)
		g.Prods = append(slices.Clone(g.Prods), g.Prods[:len(g.Prods)/2]...)
		r.Shuffle(len(g.Prods), func(i, j int) { g.Prods[i], g.Prods[j] = g.Prods[j], g.Prods[i] })
		if s := answered(g); !reflect.DeepEqual(s, want) {
			t.Fatalf("11.1, 11.2: %v: %v in another order %v", g, want, s)
		}
	}
}

// soon: what a call answers; fails if it takes long.
func soon(t *testing.T, name string, call func()) {
	t.Helper()
	done := make(chan bool)
	go func() { call(); close(done) }()
	select {
	case <-done:
	case <-time.After(20 * time.Second):
		t.Fatalf("P1: %s does not end", name)
	}
}

// Grammars made by hand are not bound by what a text can say.
func TestHuge(t *testing.T) {
	long := chain(false, api.Prod{Lhs: 127}, api.Prod{Lhs: 127, Rhs: row(9)})
	long.Prods[0].Rhs = slices.Repeat(row(191, 65, 66), 1<<20)
	long.Prods = append(long.Prods, api.Prod{Lhs: 1, Rhs: append(slices.Repeat(row(191), 1<<20), row(8)...)})
	soon(t, "First of long rows", func() {
		if f := first.First(long); f[64] != terms(8, 9) || f[65] != terms(8, 9) || f[66] != terms(9) {
			t.Errorf("11.2: %b, %b, %b", f[64], f[65], f[66])
		}
	})
	soon(t, "Of of a long row", func() {
		if s := first.Of(long, append(slices.Repeat(row(64, 65), 1<<20), row(7, 6)...), 1); s != terms(7, 8, 9) {
			t.Errorf("11.3: %b", s)
		}
	})
	many := chain(false, api.Prod{Lhs: 127}, api.Prod{Lhs: 127, Rhs: row(9)})
	many.Prods = slices.Repeat(many.Prods, 1<<13) // and such that what is far away comes nearer by one step a round
	slices.SortStableFunc(many.Prods, func(a, b api.Prod) int { return a.Lhs - b.Lhs })
	soon(t, "Nullable of many productions", func() {
		if n := first.Nullable(many); !n[64] || n[9] {
			t.Errorf("11.1: %v", n)
		}
	})
}
