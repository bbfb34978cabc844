package parse_test

import (
	"math"
	"math/rand"
	"slices"
	"testing"

	"trellis/api"
	"trellis/parse"
	"trellis/scan"
	"trellis/state"
)

// question: what a source is asked.
type question struct {
	at     int
	before string
	valid  api.Terms
}

// teller: a source that keeps what it was asked, and answers its n-th question by the n-th leaf, if it has that.
type teller struct {
	leaves []api.Leaf
	has    func(n int) bool
	asked  []question
}

func (s *teller) Find(at int, before string, valid api.Terms) (api.Leaf, bool) {
	n := len(s.asked)
	s.asked = append(s.asked, question{at, before, valid})
	if n < len(s.leaves) && s.has(n) {
		return s.leaves[n], true
	}
	return api.Leaf{}, false
}

// questions: those of a run, and the leaves that an honest source may answer: those of the run, and the token's at which ErrLoop or ErrLeaves ends it.
func questions(x tongue, text string, r api.Result) ([]question, []api.Leaf) {
	var out []question
	at, s, leaves := 0, state.Start(), slices.Clone(r.Leaves)
	before := start()
	for _, f := range r.Leaves {
		out = append(out, question{at, before, f.Valid})
		at += f.Pad + f.Len
		before = f.After
		s, _ = state.Decode(f.After)
	}
	if r.Code == api.OK {
		return out, leaves
	}
	if step := scan.Next(x.lang.Rules, s, text, at, r.Want); step.Code == api.OK {
		leaves = append(leaves, leafOf(step, at, r.Want))
	}
	return append(out, question{at, before, r.Want}), leaves
}

// checkHonest: a run with a source that has some of its leaves.
func checkHonest(t *testing.T, x tongue, text string, has func(n int) bool) (api.Result, api.Stats) {
	t.Helper()
	want := parse.Parse(x.lang, text)
	asked, leaves := questions(x, text, want)
	src := &teller{leaves: leaves, has: has}
	got, stats := parse.With(x.lang, text, src)
	if !same(got, want) {
		t.Fatalf("16.3: %s: %q: %+v, want %+v", x.text, text, got, want)
	}
	if !slices.Equal(src.asked, asked) {
		t.Fatalf("16.3: %s: %q: asked %+v, want %+v", x.text, text, src.asked, asked)
	}
	var sum api.Stats
	for n := range asked {
		switch {
		case n >= len(leaves) || !has(n):
			sum.Scanned++
		case n < len(want.Leaves):
			sum.Kept++
		}
	}
	if stats != sum {
		t.Fatalf("16.3: %s: %q: %+v, want %+v", x.text, text, stats, sum)
	}
	return got, stats
}

func all(int) bool     { return true }
func nothing(int) bool { return false }

// 16.3: honest sources.
func TestHonest(t *testing.T) {
	r := rand.New(rand.NewSource(163))
	seen := map[string]int{}
	check := func(x tongue, text string) {
		checkHonest(t, x, text, all)
		checkHonest(t, x, text, nothing)
		for range 3 {
			some := make([]bool, 300)
			for i := range some {
				some[i] = r.Intn(3) > 0
			}
			_, stats := checkHonest(t, x, text, func(n int) bool { return n < len(some) && some[n] })
			if stats.Kept > 2 && stats.Scanned > 2 {
				seen["both"]++
			}
		}
	}
	for _, s := range samples() {
		x := loaded(t, s.defn)
		for _, text := range s.texts {
			check(x, text)
			for range 20 {
				check(x, spoilt(r, text, s.pieces))
			}
		}
	}
	for range 300 {
		x := anyTongue(r)
		g := newGrower(r, x.lang)
		g.grow(len(x.lang.Gram.Terms), r.Intn(9))
		check(x, spoilt(r, written(r, x.lang, g.terms), []string{"a", "b", "x", "y", " "}))
	}
	enough(t, 300, seen, "both")
}

// 16.3: the numbers of the chapter, and the ends of a run behind leaves that were found.
func TestWith(t *testing.T) {
	x := loaded(t, sums)
	for _, c := range []struct {
		text  string
		has   func(n int) bool
		stats api.Stats
	}{
		{"1 + 2", nothing, api.Stats{Scanned: 4}},
		{"1 + 2", all, api.Stats{Kept: 4}},
		{"1 + 2", func(n int) bool { return n == 1 || n == 3 }, api.Stats{Scanned: 2, Kept: 2}},
		{"1 2", nothing, api.Stats{Scanned: 2}},
		{"1 2", all, api.Stats{Scanned: 1, Kept: 1}},
		{"", all, api.Stats{Scanned: 1}},
	} {
		if _, s := checkHonest(t, x, c.text, c.has); s != c.stats {
			t.Errorf("16.3: %q: %+v, want %+v", c.text, s, c.stats)
		}
	}
	x = loaded(t, "language l; token _a /a/; token _e empty; rule _s = (_a | _e)*;")
	last := func(n int) bool { return n == 66 }
	for _, c := range []struct {
		has   func(n int) bool
		stats api.Stats
	}{{all, api.Stats{Kept: 66}}, {last, api.Stats{Scanned: 66}}, {func(n int) bool { return n < 66 }, api.Stats{Scanned: 1, Kept: 66}}} {
		if r, s := checkHonest(t, x, "aa", c.has); r.Code != api.ErrLoop || r.At != 2 || r.Want != 7 || s != c.stats {
			t.Errorf("16.3: %d at %d, %x, %+v, want %+v", r.Code, r.At, r.Want, s, c.stats)
		}
	}
	for n, stats := range map[int]api.Stats{65536: {Kept: 65537}, 65537: {Kept: 65536}} {
		x = loaded(t, "language l; token _a /a/; rule _s = _a*;")
		if r, s := checkHonest(t, x, times(n, "a"), all); s != stats || (r.Code == api.ErrLeaves) != (n > 65536) {
			t.Errorf("16.3: %d letters: %d, %+v, want %+v", n, r.Code, s, stats)
		}
	}
	big := &teller{}
	if r, s := parse.With(x.lang, times(1<<20+1, "a"), big); !same(r, api.Result{Code: api.ErrBig}) || s != (api.Stats{}) || len(big.asked) != 0 {
		t.Errorf("16.3: of a text that is too long: %d, %+v, asked %d times", r.Code, s, len(big.asked))
	}
	if r, s := parse.With(x.lang, "aaa", nil); !same(r, parse.Parse(x.lang, "aaa")) || s != (api.Stats{Scanned: 4}) {
		t.Errorf("16.3: without a source: %d, %+v", r.Code, s)
	}
}

// 16.3: leaves that cannot stand are not taken.
func TestOddLeaves(t *testing.T) {
	x := loaded(t, sums)
	const text = " 1+2"
	bytes, _ := state.Encode(api.State{Pending: 3})
	beyond := []api.Leaf{{Term: 1, Len: 3, After: bytes}, {Term: 1, Pad: 3, After: bytes}, {Term: 1, Pad: 2, Len: 1, After: bytes}, {Pad: 2, Len: 1, After: bytes}} // behind the 1 there are two bytes left
	for n := range 4 {
		for _, odd := range append([]api.Leaf{
			{Term: 4, Len: 5, After: bytes}, {Term: 4, Pad: 4, Len: 1, After: bytes}, {Term: 4, Pad: 5, After: bytes}, {Term: 4, Pad: -1, Len: 1, After: bytes}, {Term: 4, Pad: 1, Len: -1, After: bytes},
			{Term: 1, Pad: -1, After: bytes}, {Term: 1, Len: 6, After: bytes}, {Pad: -3, After: bytes}, {Len: 4 + 1, After: bytes},
			{Term: 3, Pad: 1, After: bytes}, {Term: 5, Pad: 1, After: bytes}, {Term: -1, Pad: 1, After: bytes}, {Term: 64, Pad: 1, After: bytes}, {Term: 68, After: bytes}, {Term: math.MinInt, After: bytes}, {Term: math.MaxInt, After: bytes},
			{Term: 4, Len: 1}, {Term: 4, After: "?"}, {Term: 1, After: bytes + "\x00"}, {Term: 2, After: bytes[:3]}, {After: "S"}, {Term: 1, Len: 1, After: "S\x01\x00\x00\x00\x00\x00"},
			{Term: 4, Pad: math.MaxInt, Len: math.MaxInt, After: bytes}, {Term: 1, Pad: math.MaxInt, Len: 1, After: bytes}, {Term: 4, Pad: 1, Len: math.MaxInt, After: bytes}, {Term: 1, Pad: math.MinInt, Len: math.MinInt, After: bytes},
		}, beyond...) {
			src := &teller{leaves: slices.Repeat([]api.Leaf{odd}, n+1), has: func(i int) bool { return i == n }}
			if got, s := parse.With(x.lang, text, src); !same(got, parse.Parse(x.lang, text)) || s != (api.Stats{Scanned: 4}) || len(src.asked) != 4 {
				t.Errorf("16.3: %+v as the leaf %d: %d at %d, %+v, asked %d times", odd, n, got.Code, got.At, s, len(src.asked))
			}
		}
	}
}

// 16.3: leaves that can stand are taken at their word: the state behind them too.
func TestTakenLeaves(t *testing.T) {
	l := loaded(t, layout)
	deep, _ := state.Encode(api.State{Pending: 7})
	src := &teller{leaves: []api.Leaf{{Term: 2, Len: 1, Look: 1, Valid: terms(2), After: deep}}, has: all}
	got, s := parse.With(l.lang, "a", src)
	if got.Code != api.ErrSyntax || got.At != 1 || got.Want != terms(2) || len(got.Leaves) != 2 || got.Leaves[0] != src.leaves[0] || got.Leaves[1].Term != 3 || s != (api.Stats{Scanned: 2, Kept: 1}) {
		t.Errorf("16.3: %+v, %+v", got, s)
	}
	if want := []question{{0, start(), terms(2)}, {1, deep, terms(1, 3)}, {1, got.Leaves[1].After, terms(2)}}; !slices.Equal(src.asked, want) {
		t.Errorf("16.3: asked %+v, want %+v", src.asked, want)
	}
}

// liar: a source that answers whatever comes.
type liar struct {
	*rand.Rand
	states []string
	asked  int
}

func (s *liar) Find(at int, before string, valid api.Terms) (api.Leaf, bool) {
	s.asked++
	number := func() int { return pick(s.Rand, 0, 0, 0, 1, 1, 2, -1, math.MaxInt, math.MinInt) }
	f := api.Leaf{Term: pick(s.Rand, 0, 1, 2, 3, 4, s.Intn(70)-2), Pad: number(), Len: number(), Look: number(), Valid: valid, After: pick(s.Rand, append(s.states, before)...)}
	return f, s.Intn(10) > 0
}

// P1: sources that are not honest.
func TestLiars(t *testing.T) {
	r := rand.New(rand.NewSource(166))
	states := []string{"", "S", "?"}
	for _, s := range []api.State{{Pending: 3}, {Pending: -1, Frames: []api.Frame{{Mode: 1, Delim: "x"}}}, {Pending: 0, Indents: []int{2, 4}, Queue: []string{"E"}}} {
		b, _ := state.Encode(s)
		states = append(states, b, b)
	}
	kept := 0
	for _, s := range samples() {
		x := loaded(t, s.defn)
		for range 300 {
			src := &liar{r, states, 0}
			got, stats := parse.With(x.lang, spoilt(r, pick(r, s.texts...), s.pieces), src)
			if steps := len(got.Leaves) + 1; src.asked > steps || stats.Kept > len(got.Leaves) || stats.Scanned+stats.Kept > steps {
				t.Fatalf("P1: %s: %+v, %d leaves, asked %d times", x.text, stats, len(got.Leaves), src.asked)
			}
			kept += stats.Kept
		}
	}
	if kept < 1000 {
		t.Errorf("only %d leaves were taken", kept)
	}
}
