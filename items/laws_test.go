package items_test

import (
	"math"
	"math/rand"
	"reflect"
	"slices"
	"testing"
	"time"

	"trellis/api"
	"trellis/first"
	"trellis/items"
)

// enough: fails if one of the kinds has come up too seldom for the test to tell anything.
func enough(t *testing.T, least int, seen map[string]int, kinds ...string) {
	t.Helper()
	for _, k := range kinds {
		if seen[k] < least {
			t.Errorf("only %d of %q: %v", seen[k], k, seen)
		}
	}
}

// 12.1, 12.2 against the chapter's words.
func TestClosureModel(t *testing.T) {
	r := rand.New(rand.NewSource(1))
	seen := map[string]int{}
	for range 6000 {
		g := anyGram(r, 5, 5, 14)
		p := plain{g}
		l := anyItems(r, g, 4)
		got, want := items.Closure(g, l), p.closure(l)
		if !slices.Equal(got, want) || !isSet(got) {
			t.Fatalf("12.1: Closure(%v, %v) = %v, want %v", g, l, got, want)
		}
		switch {
		case len(got) == 0:
			seen["nothing"]++
		case len(got) > 2*len(l):
			seen["much more"]++
		case len(got) > len(l):
			seen["more"]++
		default:
			seen["no more"]++
		}
		for range 3 {
			sym := r.Intn(len(g.Terms)+len(g.Syms)+2) - 1
			got, want := items.Goto(g, l, sym), p.behind(l, sym)
			if !slices.Equal(got, want) {
				t.Fatalf("12.2: Goto(%v, %v, %d) = %v, want %v", g, l, sym, got, want)
			}
			if len(got) > 0 {
				seen["somewhere"]++
			} else {
				seen["nowhere"]++
			}
		}
	}
	enough(t, 300, seen, "nothing", "much more", "more", "no more", "somewhere", "nowhere")
}

// 12.1 of greater grammars: with all 64 tokens as Looks.
func TestGreatModel(t *testing.T) {
	r := rand.New(rand.NewSource(2))
	seen := map[string]int{}
	for range 150 {
		g := anyGram(r, 64, 20, 80)
		l := anyItems(r, g, 8)
		got, want := items.Closure(g, l), plain{g}.closure(l)
		if !slices.Equal(got, want) {
			t.Fatalf("12.1: Closure(%v, %v) = %v, want %v", g, l, got, want)
		}
		if len(got) > 100 {
			seen["great"]++
		}
	}
	enough(t, 20, seen, "great")
	// the last token and the last Sym of all
	g := gram(64, 128, prod(0, 191, 63), prod(127), prod(127, 191, 62))
	want := list("0.0/0 0.0/63 1.0/0 1.0/63 2.0/62 2.0/63 3.0/62 3.0/63")
	if s := items.Closure(g, list("0.0/0 0.0/63")); !slices.Equal(s, want) {
		t.Errorf("12.1: %v", s)
	}
	if s := items.Goto(g, list("0.0/63"), 191); !slices.Equal(s, list("1.1/63 3.1/62 3.1/63")) {
		t.Errorf("12.2: %v", s)
	}
}

// 12.3 against the chapter's words.
func TestSetsModel(t *testing.T) {
	r := rand.New(rand.NewSource(3))
	seen := map[string]int{}
	for range 2500 {
		g := anyGram(r, 4, 4, 9)
		wantSets, wantGotos, ok := plain{g}.sets(120)
		if !ok {
			seen["too many for this test"]++
			continue
		}
		sets, gotos, code := items.Sets(g)
		if code != api.OK || !slices.EqualFunc(sets, wantSets, slices.Equal) || !slices.EqualFunc(gotos, wantGotos, slices.Equal) {
			t.Fatalf("12.3: Sets(%v) = %v, %v, %d, want %v, %v", g, sets, gotos, code, wantSets, wantGotos)
		}
		if len(sets) > 12 {
			seen["many"]++
		} else {
			seen["few"]++
		}
	}
	enough(t, 200, seen, "many", "few")
}

// 12.3: what holds between Sets and the other calls, of greater grammars too.
func TestSetsAndGotos(t *testing.T) {
	r := rand.New(rand.NewSource(4))
	seen := map[string]int{}
	for range 150 {
		g := anyGram(r, 12, 12, 30)
		sets, gotos, code := items.Sets(g)
		if code == api.ErrStates {
			seen["too many"]++
			continue
		}
		seen["OK"]++
		if !slices.Equal(sets[0], items.Closure(g, list("0.0/0"))) {
			t.Fatalf("12.3: %v: the set 0 is %v", g, sets[0])
		}
		next := 1
		for i := range sets {
			if len(gotos[i]) != len(g.Terms)+len(g.Syms) || gotos[i][0] != -1 || !isSet(sets[i]) {
				t.Fatalf("12.3: %v: the set %d: %v, %v", g, i, sets[i], gotos[i])
			}
			for symbol, to := range gotos[i] {
				var want []api.Item
				if to >= 0 {
					want = sets[to]
				}
				if to == next {
					next++
				} else if to > next {
					t.Fatalf("12.3: %v: %d comes up ahead of %d", g, to, next)
				}
				if i < 40 && !slices.Equal(items.Goto(g, sets[i], symbol), want) {
					t.Fatalf("12.3: %v: from %d by %d to %d", g, i, symbol, to)
				}
			}
		}
		if next != len(sets) {
			t.Fatalf("12.3: %v: %d sets, but %d are met", g, len(sets), next)
		}
	}
	enough(t, 50, seen, "OK")
}

// 12.4.
func TestClosed(t *testing.T) {
	r := rand.New(rand.NewSource(5))
	for range 4000 {
		g := anyGram(r, 12, 8, 24)
		l := anyItems(r, g, 5)
		all := items.Closure(g, l)
		if again := items.Closure(g, all); !slices.Equal(again, all) {
			t.Fatalf("12.4: %v: the closure of %v is %v, its closure %v", g, l, all, again)
		}
		for _, x := range l {
			if !slices.Contains(all, x) {
				t.Fatalf("12.4: %v: the closure %v has not %v", g, all, x)
			}
		}
		mixed := append(slices.Clone(l), l[:len(l)/2]...)
		r.Shuffle(len(mixed), func(i, j int) { mixed[i], mixed[j] = mixed[j], mixed[i] })
		if s := items.Closure(g, mixed); !slices.Equal(s, all) {
			t.Fatalf("12.4: %v: %v is closed to %v, %v to %v", g, l, all, mixed, s)
		}
		more := items.Closure(g, append(mixed, anyItems(r, g, 3)...))
		for _, x := range all {
			if !slices.Contains(more, x) {
				t.Fatalf("12.4: %v: %v is lost from %v to %v", g, x, all, more)
			}
		}
		for range 3 {
			sym := 1 + r.Intn(len(g.Terms)+len(g.Syms)-1)
			if a, b := items.Goto(g, l, sym), items.Goto(g, all, sym); !slices.Equal(a, b) {
				t.Fatalf("12.4: %v: Goto of %v by %d is %v, of its closure %v", g, l, sym, a, b)
			}
		}
	}
}

// rows: all rows of up to n symbols.
func rows(g api.Gram, n int) [][]api.Ref {
	out := [][]api.Ref{nil}
	for at := 0; at < len(out); at++ {
		if len(out[at]) < n {
			for s := 1; s < len(g.Terms)+len(g.Syms); s++ {
				out = append(out, append(slices.Clone(out[at]), api.Ref{Sym: s}))
			}
		}
	}
	return out
}

// 12.5: just the items that are meant, whatever row is read.
func TestMeaning(t *testing.T) {
	r := rand.New(rand.NewSource(6))
	seen := map[string]int{}
	for range 500 {
		g := anyFruitful(r, 3, 3, 8)
		sets, gotos, code := items.Sets(g)
		if code != api.OK {
			continue
		}
		for _, l := range rows(g, 4) {
			var got []api.Item
			if at := lead(gotos, l); at >= 0 {
				got = sets[at]
				seen["a set"]++
			} else {
				seen["no set"]++
			}
			if want := (plain{g}).meant(l); !slices.Equal(got, want) {
				t.Fatalf("12.5: %v: %v leads to %v, which means %v", g, l, got, want)
			}
		}
	}
	enough(t, 3000, seen, "a set", "no set")
}

// 12.5: step by step, with the rows themselves: what comes about is in the set.
func TestSteps(t *testing.T) {
	r := rand.New(rand.NewSource(7))
	met := 0
	for range 600 {
		g := anyFruitful(r, 4, 5, 14)
		sets, gotos, code := items.Sets(g)
		if code != api.OK {
			continue
		}
		for range 6 {
			ahead, last, behind := row(), row(len(g.Terms)), row()
			for range 8 {
				var places []int
				for i, x := range last {
					if x.Sym >= len(g.Terms) {
						places = append(places, i)
					}
				}
				if len(places) == 0 {
					break
				}
				at := places[r.Intn(len(places))]
				sym := last[at].Sym - len(g.Terms)
				ahead, behind = slices.Concat(ahead, last[:at]), slices.Concat(last[at+1:], behind)
				var own []int
				for i, p := range g.Prods {
					if p.Lhs == sym {
						own = append(own, i)
					}
				}
				n := own[r.Intn(len(own))]
				last = g.Prods[n].Rhs
				for dot := range len(last) + 1 {
					read := slices.Concat(ahead, last[:dot])
					to := lead(gotos, read)
					for _, look := range tokens(first.Of(g, behind, 1)) {
						met++
						if x := (api.Item{Prod: n, Dot: dot, Look: look}); to < 0 || !slices.Contains(sets[to], x) {
							t.Fatalf("12.5: %v: %v leads to %d, which has not %v", g, read, to, x)
						}
					}
				}
			}
		}
	}
	if met < 10000 {
		t.Errorf("only %d items", met)
	}
}

// doing: what a set says of a token: the set behind it, -1 if there is none; the productions that end there.
func doing(g api.Gram, set []api.Item, gotos []int, token int) (int, []int) {
	var ended []int
	for _, x := range set {
		if x.Dot == len(g.Prods[x.Prod].Rhs) && x.Look == token {
			ended = append(ended, x.Prod)
		}
	}
	return gotos[token], ended
}

// clear: does each set say one thing at most of each token?
func clear(g api.Gram, sets [][]api.Item, gotos [][]int) bool {
	for i := range sets {
		for t := range g.Terms {
			if to, ended := doing(g, sets[i], gotos[i], t); len(ended) > 1 || len(ended) == 1 && to >= 0 {
				return false
			}
		}
	}
	return true
}

// next: the tokens behind the dots, and the Looks of items whose dot is at the end.
func next(g api.Gram, set []api.Item) api.Terms {
	var out api.Terms
	for _, x := range set {
		l := g.Prods[x.Prod].Rhs
		if x.Dot == len(l) {
			out |= 1 << x.Look
		} else if l[x.Dot].Sym < len(g.Terms) {
			out |= 1 << l[x.Dot].Sym
		}
	}
	return out
}

// 12.5: of a row of tokens that is gathered into symbols, the set tells what may come next.
func TestNext(t *testing.T) {
	r := rand.New(rand.NewSource(8))
	seen := map[string]int{}
	for range 6000 {
		g := anyFruitful(r, 4, 4, 9)
		sets, gotos, code := items.Sets(g)
		if code != api.OK || !clear(g, sets, gotos) {
			seen["unclear"]++
			continue
		}
		seen["clear"]++
		for range 4 {
			stack, read := []int{0}, []int(nil)
			for range 8 {
				valid := next(g, sets[stack[len(stack)-1]])
				if want := (plain{g}).valid(read); valid != want {
					t.Fatalf("12.5: %v: behind %v may come %v, told is %v", g, read, tokens(want), tokens(valid))
				}
				seen["places"]++
				l := tokens(valid &^ 1)
				if len(l) == 0 {
					break
				}
				token := l[r.Intn(len(l))]
				read = append(read, token)
				to, ended := doing(g, sets[stack[len(stack)-1]], gotos[stack[len(stack)-1]], token)
				for len(ended) > 0 {
					p := g.Prods[ended[0]]
					stack = stack[:len(stack)-len(p.Rhs)]
					stack = append(stack, gotos[stack[len(stack)-1]][len(g.Terms)+p.Lhs])
					to, ended = doing(g, sets[stack[len(stack)-1]], gotos[stack[len(stack)-1]], token)
				}
				stack = append(stack, to)
			}
		}
	}
	enough(t, 500, seen, "clear", "places")
}

// 12.6.
func TestNames(t *testing.T) {
	r := rand.New(rand.NewSource(9))
	name := func() string { return []string{"", "_", "a", "\xff", "s"}[r.Intn(5)] }
	for range 600 {
		g := anyGram(r, 5, 5, 12)
		l, sym := anyItems(r, g, 4), 1+r.Intn(len(g.Terms)+len(g.Syms)-1)
		closure, behind := items.Closure(g, l), items.Goto(g, l, sym)
		sets, gotos, code := items.Sets(g)
		for i := range g.Terms {
			g.Terms[i] = api.TermDef{Name: name(), Lit: r.Intn(2) == 0}
		}
		for i := range g.Syms {
			g.Syms[i] = api.Sym{Name: name(), Kind: api.SymKind(r.Intn(6) - 1)}
		}
		for i := range g.Prods {
			for at := range g.Prods[i].Rhs {
				g.Prods[i].Rhs[at].Field, g.Prods[i].Rhs[at].As = name(), name()
			}
		}
		if !slices.Equal(items.Closure(g, l), closure) || !slices.Equal(items.Goto(g, l, sym), behind) {
			t.Fatalf("12.6: %v: closure or goto of %v, by %d", g, l, sym)
		}
		if s, n, c := items.Sets(g); !reflect.DeepEqual(s, sets) || !reflect.DeepEqual(n, gotos) || c != code {
			t.Fatalf("12.6: %v: %v, %v, %d", g, s, n, c)
		}
	}
}

// odd: numbers of which most are none of a symbol's, an item's, a Sym's.
func odd(r *rand.Rand, g api.Gram) int {
	l := []int{-1, -2, math.MinInt, math.MaxInt, len(g.Terms) + len(g.Syms), len(g.Terms) + len(g.Syms) - 1, len(g.Syms), len(g.Terms), 0, 1, 63, 64, 191, 192, 1 << 32}
	return l[r.Intn(len(l))]
}

// spoil: some numbers are odd ones.
func spoil(r *rand.Rand, g *api.Gram) {
	switch r.Intn(16) {
	case 0:
		g.Terms = make([]api.TermDef, r.Intn(70))
	case 1:
		g.Syms = make([]api.Sym, r.Intn(140))
	case 2:
		g.Prods = g.Prods[1:]
	}
	for i := range g.Prods {
		for at := range g.Prods[i].Rhs {
			if r.Intn(30) == 0 {
				g.Prods[i].Rhs[at].Sym = odd(r, *g)
			}
		}
		if r.Intn(40) == 0 {
			g.Prods[i].Lhs = odd(r, *g)
		}
	}
}

// P1: whatever is given; what is not right has no answer, what is no item does not count.
func TestAnything(t *testing.T) {
	r := rand.New(rand.NewSource(10))
	seen := map[string]int{}
	for range 8000 {
		g := anyGram(r, 4, 4, 6)
		own := anyItems(r, g, 3)
		spoil(r, &g)
		own = slices.DeleteFunc(own, func(x api.Item) bool { return !isItem(g, x) })
		l := slices.Clone(own)
		for range r.Intn(4) {
			x := api.Item{Prod: odd(r, g), Dot: odd(r, g), Look: odd(r, g)}
			if !isItem(g, x) {
				l = slices.Insert(l, r.Intn(len(l)+1), x)
			}
		}
		sym := odd(r, g)
		closure, behind := items.Closure(g, l), items.Goto(g, l, sym)
		sets, gotos, code := items.Sets(g)
		if !isRight(g) {
			seen["not right"]++
			if len(closure)+len(behind)+len(sets)+len(gotos) != 0 || code != api.ErrShape {
				t.Fatalf("12.1 to 12.3: %v is not right: %v, %v, %v, %d", g, closure, behind, sets, code)
			}
			continue
		}
		if code != api.OK && code != api.ErrStates || (code == api.OK) != (len(sets) > 0) || len(gotos) != len(sets) {
			t.Fatalf("12.3: %v is right: %d, %v", g, code, sets)
		}
		if len(l) > len(own) {
			seen["no items"]++
		}
		if p := (plain{g}); !slices.Equal(closure, p.closure(own)) || !slices.Equal(behind, p.behind(own, sym)) {
			t.Fatalf("12.1, 12.2: %v: %v by %d: %v, %v", g, l, sym, closure, behind)
		}
		seen["right"]++
	}
	enough(t, 800, seen, "not right", "no items", "right")
}

// roomy: the same with spare room behind each list, and what is in it.
func roomy(g api.Gram) api.Gram {
	refs := func(l []api.Ref) []api.Ref { return append(slices.Clone(l), row(1, -5, 99)...)[:len(l)] }
	out := api.Gram{
		Terms: append(slices.Clone(g.Terms), api.TermDef{Name: "spare"})[:len(g.Terms)],
		Syms:  append(slices.Clone(g.Syms), api.Sym{Name: "spare"})[:len(g.Syms)],
		Prods: append(slices.Clone(g.Prods), api.Prod{Lhs: -3})[:len(g.Prods)],
	}
	for i := range out.Prods {
		out.Prods[i].Rhs = refs(out.Prods[i].Rhs)
	}
	return out
}

// whole: a copy with all that is in the spare room.
func whole(g api.Gram) api.Gram {
	out := api.Gram{Terms: slices.Clone(g.Terms[:cap(g.Terms)]), Syms: slices.Clone(g.Syms[:cap(g.Syms)]), Prods: slices.Clone(g.Prods[:cap(g.Prods)])}
	for i := range out.Prods {
		out.Prods[i].Rhs = slices.Clone(out.Prods[i].Rhs[:cap(out.Prods[i].Rhs)])
	}
	return out
}

// answers: what all calls say.
type answers struct {
	closure, behind []api.Item
	sets            [][]api.Item
	gotos           [][]int
	code            api.Errno
}

func ask(g api.Gram, l []api.Item, sym int) answers {
	var out answers
	out.closure, out.behind = items.Closure(g, l), items.Goto(g, l, sym)
	out.sets, out.gotos, out.code = items.Sets(g)
	return out
}

func (a answers) clone() answers {
	a.closure, a.behind, a.sets, a.gotos = slices.Clone(a.closure), slices.Clone(a.behind), slices.Clone(a.sets), slices.Clone(a.gotos)
	for i := range a.sets {
		a.sets[i], a.gotos[i] = slices.Clone(a.sets[i]), slices.Clone(a.gotos[i])
	}
	return a
}

func (a answers) equal(b answers) bool {
	return slices.Equal(a.closure, b.closure) && slices.Equal(a.behind, b.behind) && a.code == b.code &&
		slices.EqualFunc(a.sets, b.sets, slices.Equal) && slices.EqualFunc(a.gotos, b.gotos, slices.Equal)
}

// filled: all of the list's room is written into.
func filled[T any](l []T, x T) {
	l = l[:cap(l)]
	for i := range l {
		l[i] = x
	}
}

// P2, P3: nothing that is handed in is changed, nothing that is handed out is held; the same is answered again.
func TestMemory(t *testing.T) {
	r := rand.New(rand.NewSource(11))
	for range 400 {
		g := roomy(anyGram(r, 5, 5, 10))
		l := append(anyItems(r, g, 5), list("0.0/0 -7.0/0")...)
		copied, kept := whole(g), slices.Clone(l)
		sym := len(g.Terms) + r.Intn(len(g.Syms))
		one := ask(g, l[:len(l)-2], sym)
		want := one.clone()
		filled(one.closure, api.Item{Prod: -9})
		filled(one.behind, api.Item{Prod: -9})
		for i := range one.sets {
			filled(one.sets[i], api.Item{Prod: -9})
			filled(one.gotos[i], -9)
			for j := i + 1; j < len(one.sets); j++ { // those that have not been written into yet
				if !slices.Equal(one.sets[j], want.sets[j]) || !slices.Equal(one.gotos[j], want.gotos[j]) {
					t.Fatalf("P2: %v: the lists of %d and %d share memory", g, i, j)
				}
			}
		}
		filled(one.sets, nil)
		filled(one.gotos, nil)
		if two := ask(g, l[:len(l)-2], sym); !two.equal(want) {
			t.Fatalf("P2, P3: %v: %v, then %v", g, want, two)
		}
		if !reflect.DeepEqual(whole(g), copied) || !slices.Equal(l, kept) {
			t.Fatalf("P2: %v has been changed", copied)
		}
		// and what is written into the grammar later changes no answer
		three := ask(g, l[:len(l)-2], sym)
		for i := range g.Prods {
			filled(g.Prods[i].Rhs, api.Ref{Sym: -1})
		}
		filled(g.Prods, api.Prod{Lhs: 77})
		filled(l, api.Item{Prod: 77})
		if !three.equal(want) {
			t.Fatalf("P2: %v: the answer is bound to the grammar", copied)
		}
	}
}

// Productions that are the same bring the same: only their numbers are others.
func TestTwice(t *testing.T) {
	r := rand.New(rand.NewSource(12))
	for range 600 {
		g := anyGram(r, 5, 4, 8)
		n := len(g.Prods)
		l := anyItems(r, g, 3)
		want := items.Closure(g, l)
		g.Prods = append(slices.Clone(g.Prods), g.Prods[1:]...)
		for _, x := range items.Closure(g, l) {
			if x.Prod < n && !slices.Contains(want, x) {
				t.Fatalf("12.1: %v: %v of %v is new", g, x, l)
			}
			if x.Prod >= n {
				x.Prod -= n - 1
				if x.Dot != 0 || !slices.Contains(want, x) {
					t.Fatalf("12.1: %v: %v of %v is new", g, x, l)
				}
			}
		}
	}
}

// soon: what a call answers; fails if it takes long.
func soon(t *testing.T, name string, call func()) {
	t.Helper()
	done := make(chan bool)
	go func() { call(); close(done) }()
	select {
	case <-done:
	case <-time.After(20 * time.Second):
		t.Fatalf("P1: %s does not end", name)
	}
}

// remembering: a row ends with a token that has not come ahead of it: so the sets know which of the n tokens have come, and there are far more than MaxStates.
func remembering(n int) api.Gram {
	g := gram(n+1, n+1)
	for i := 1; i <= n; i++ {
		g.Prods = append(g.Prods, prod(0, n+1+i))
		for j := 1; j <= n; j++ {
			if j != i {
				g.Prods = append(g.Prods, prod(i, j, n+1+i))
			}
		}
		g.Prods = append(g.Prods, prod(i, i))
	}
	return g
}

// Grammars and lists made by hand are not bound by what a text can say.
func TestHuge(t *testing.T) {
	long := gram(64, 128, prod(1), prod(1, 9), api.Prod{Lhs: 0, Rhs: append(slices.Repeat(row(65), 1<<20), row(7)...)})
	soon(t, "Closure in a long row", func() {
		if l := items.Closure(long, list("0.0/0 3.5/1")); !slices.Equal(l, list("0.0/0 1.0/7 1.0/9 2.0/7 2.0/9 3.0/0 3.5/1")) {
			t.Errorf("12.1: %v", l)
		}
	})
	soon(t, "Sets of a long row", func() {
		if _, _, code := items.Sets(long); code != api.ErrStates {
			t.Errorf("12.3: %d", code)
		}
	})
	soon(t, "Closure and Goto of a long list", func() {
		l := slices.Repeat(list("3.1/0 3.9/5 9.0/0"), 1<<18)
		for i := range 1 << 20 {
			l = append(l, api.Item{Prod: 3, Dot: 1<<20 + 1 - i, Look: i % 64})
		}
		if got := items.Closure(long, l); len(got) != 1<<20+2+4 || !isSet(got) {
			t.Errorf("12.1: %d items", len(got))
		}
		if got := items.Goto(long, l, 65); len(got) != 1<<20+2-2+4 || !isSet(got) {
			t.Errorf("12.2: %d items", len(got))
		}
	})
	many := gram(64, 128)
	for i := range 1 << 14 {
		many.Prods = append(many.Prods, prod(i%128, 64+(i*29+1)%128, 1+i%63), prod(i%128, 1+i%63)) // each Sym leads to all
	}
	soon(t, "Closure of many productions", func() {
		if l := items.Closure(many, list("0.0/0")); len(l) < 1<<20 || l[len(l)-1].Prod != 1<<15 {
			t.Errorf("12.1: %d items", len(l))
		}
	})
	soon(t, "Sets of many productions", func() {
		if sets, _, code := items.Sets(many); code != api.ErrStates {
			t.Errorf("12.3: %d, %d sets", code, len(sets))
		}
	})
	soon(t, "Sets that are far too many", func() {
		for _, n := range []int{11, 12, 40, 63} {
			if sets, gotos, code := items.Sets(remembering(n)); code != api.ErrStates || len(sets)+len(gotos) != 0 {
				t.Errorf("12.3: of %d: %d, %d sets", n, code, len(sets))
			}
		}
	})
}
