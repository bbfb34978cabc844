package reuse_test

import (
	"math"
	"math/rand"
	"slices"
	"strings"
	"testing"

	"trellis/api"
	"trellis/edit"
	"trellis/parse"
	"trellis/reuse"
)

// *reuse.Old is what parse.With asks.
var _ parse.Source = (*reuse.Old)(nil)

// words: the parse of "ab cd" of the chapter's examples.
func words() api.Result {
	return api.Result{At: 5, Leaves: []api.Leaf{
		{Term: 1, Len: 2, Look: 3, Valid: 3, After: start()},
		{Term: 1, Pad: 1, Len: 2, Look: 4, Valid: 3, After: start()},
		{Look: 1, Valid: 3, After: start()},
	}}
}

// The chapter's table, and more edits of that text.
func TestExamples(t *testing.T) {
	const gone = -1
	r := words()
	for _, c := range []struct {
		n    int
		e    api.Edit
		at   [3]int
		many int
	}{
		{5, api.Edit{At: 5, Ins: "e"}, [3]int{0, gone, 6}, 2},
		{5, api.Edit{At: 3, Del: 1, Ins: "xy"}, [3]int{0, gone, 6}, 2},
		{5, api.Edit{At: 2, Ins: "z"}, [3]int{gone, 3, 6}, 2},
		{5, api.Edit{At: 0, Ins: "  "}, [3]int{2, 4, 7}, 3},
		{5, api.Edit{At: 1}, [3]int{gone, 2, 5}, 2},
		{4, api.Edit{At: 1}, [3]int{gone, gone, gone}, 0},
		{5, api.Edit{At: 5}, [3]int{0, gone, 5}, 2},
		{5, api.Edit{}, [3]int{0, 2, 5}, 3},
		{5, api.Edit{At: 0, Del: 2, Ins: "ab"}, [3]int{gone, 2, 5}, 2}, // that the same comes again does not count
		{5, api.Edit{At: 0, Del: 3}, [3]int{gone, gone, 2}, 1},
		{5, api.Edit{At: 3, Del: 2}, [3]int{0, gone, 3}, 2},
		{5, api.Edit{At: math.MinInt, Del: math.MaxInt, Ins: "x"}, [3]int{gone, gone, 1}, 1},
		{5, api.Edit{At: math.MaxInt, Del: math.MaxInt, Ins: "x"}, [3]int{0, gone, 6}, 2},
		{5, api.Edit{At: 2, Del: math.MinInt, Ins: "x"}, [3]int{gone, 3, 6}, 2},
		{7, api.Edit{At: 6, Del: 1}, [3]int{0, 2, 5}, 3}, // leaves need not be all of a text
		{6, api.Edit{At: 5, Del: 1, Ins: "x"}, [3]int{0, gone, gone}, 1},
	} {
		o := check(t, c.n, r, c.e)
		if o.Standing() != c.many {
			t.Errorf("17.2: %d, %+v: %d stand, want %d", c.n, c.e, o.Standing(), c.many)
		}
		for i, f := range r.Leaves {
			for at := -1; at < 12; at++ {
				got, ok := o.Find(at, start(), 3)
				if mine := ok && got == f; mine != (at >= 0 && at == c.at[i]) {
					t.Errorf("17.3: %d, %+v: the leaf %d at %d: %v", c.n, c.e, i, at, mine)
				}
			}
		}
	}
}

// 17.1: what is right for n, and what is not: then nothing stands.
func TestRight(t *testing.T) {
	const most = api.MaxText
	one := func(pad, length, look int) api.Leaf {
		return api.Leaf{Term: 1, Pad: pad, Len: length, Look: look, Valid: 1}
	}
	for i, c := range []struct {
		n      int
		leaves []api.Leaf
		many   int
	}{
		{0, nil, 0}, {0, []api.Leaf{}, 0}, {most, nil, 0}, {-1, nil, 0},
		{0, []api.Leaf{{}}, 1}, {-1, []api.Leaf{{}}, 0}, {math.MinInt, []api.Leaf{{}}, 0}, {most, []api.Leaf{{}}, 1}, {most + 1, []api.Leaf{{}}, 0}, {math.MaxInt, []api.Leaf{{}}, 0},
		{2, []api.Leaf{one(1, 1, 0)}, 1}, {1, []api.Leaf{one(1, 1, 0)}, 0}, {2, []api.Leaf{one(1, 1, 9)}, 1}, {3, []api.Leaf{one(1, 0, 0), one(0, 2, 1)}, 2}, {2, []api.Leaf{one(1, 0, 0), one(0, 2, 1)}, 0}, {2, []api.Leaf{one(0, 1, 0), one(2, 0, 0)}, 0},
		{2, []api.Leaf{one(-1, 0, 0)}, 0}, {2, []api.Leaf{one(0, -1, 0)}, 0}, {2, []api.Leaf{one(0, 0, -1)}, 0}, {2, []api.Leaf{one(3, -1, 0)}, 0}, {2, []api.Leaf{one(-1, 3, 0)}, 0}, {2, []api.Leaf{one(0, 3, 0), one(-1, 0, 0)}, 0},
		{2, []api.Leaf{one(0, 0, 0), one(0, 1, 1), one(0, 0, -1)}, 0}, {2, []api.Leaf{one(0, 0, 0), one(0, 1, 1), one(0, 0, most+2)}, 0}, {2, []api.Leaf{one(0, 0, math.MaxInt)}, 0}, {2, []api.Leaf{one(0, 0, math.MinInt)}, 0},
		{2, []api.Leaf{one(0, 0, most+1)}, 1}, {most, []api.Leaf{one(most, 0, most+1)}, 1}, {most, []api.Leaf{one(0, most, most+1), {}}, 2}, {most, []api.Leaf{one(most+1, 0, 0)}, 0}, {most, []api.Leaf{one(0, most+1, 0)}, 0}, {most, []api.Leaf{one(1, most, 0)}, 0}, {most, []api.Leaf{one(1, most-1, 0)}, 1},
		{2, []api.Leaf{one(math.MaxInt, math.MaxInt, 0)}, 0}, {2, []api.Leaf{one(math.MaxInt, 2, 0)}, 0}, {2, []api.Leaf{one(1, math.MaxInt, 0)}, 0}, {2, []api.Leaf{one(math.MinInt, math.MinInt, 0)}, 0}, {2, []api.Leaf{one(math.MinInt, math.MaxInt, 0)}, 0},
		{2, []api.Leaf{one(1<<62, 0, 0), one(1<<62, 0, 0)}, 0}, {2, []api.Leaf{one(1<<62, 1<<62, 0), one(1<<62, 1<<62, 0)}, 0}, {2, slices.Repeat([]api.Leaf{one(1<<61, 1<<61, 0)}, 4), 0},
		{2, slices.Repeat([]api.Leaf{one(0, 1, 0)}, 3), 0}, {3, slices.Repeat([]api.Leaf{one(0, 1, 0)}, 3), 3},
	} {
		r := api.Result{Leaves: c.leaves}
		o := reuse.New(c.n, r, api.Edit{})
		if o == nil || o.Standing() != c.many || plainRight(c.n, r) != (c.many > 0 || len(c.leaves) == 0 && c.n >= 0) {
			t.Fatalf("17.1: row %d: %+v", i, o)
		}
		if c.n < 100 {
			check(t, c.n, r, api.Edit{})
			check(t, c.n, r, api.Edit{At: 1, Del: 1, Ins: "xy"})
		}
		if c.many == 0 {
			for at := range 4 {
				if f, ok := o.Find(at, start(), 1); f != (api.Leaf{}) || ok {
					t.Fatalf("17.1, 17.3: row %d: at %d: %+v, %v", i, at, f, ok)
				}
			}
		}
	}
	if o := reuse.New(1<<20, api.Result{Leaves: []api.Leaf{{Pad: 1 << 20, Look: 1<<20 + 1}}}, api.Edit{Ins: "x"}); o.Standing() != 1 {
		t.Error("17.1: the greatest text")
	}
}

// 17.1: the other fields of a result and of its leaves do not count.
func TestOtherFields(t *testing.T) {
	r := rand.New(rand.NewSource(171))
	number := func() int { return pick(r, 0, -1, 7, math.MinInt, math.MaxInt) }
	for range 300 {
		l := anyLeaves(r)
		for i := range l {
			l[i].Term = number()
			l[i].After = pick(r, "", "S", start(), "\x00\xff", strings.Repeat("x", 100))
			l[i].Valid = api.Terms(r.Uint64())
		}
		x := api.Result{Code: api.Errno(number()), At: number(), Want: api.Terms(r.Uint64()), Leaves: l, Nodes: []api.Node{{Kids: number(), Leaf: number()}}, Roots: number()}
		check(t, lengthOf(l)+r.Intn(3), x, anyEdit(r, 9))
	}
}

// 17.2, 17.3: one that has looked at nothing stands on both sides of what is inserted where it begins, and is one.
func TestTwoPlaces(t *testing.T) {
	l := []api.Leaf{{Term: 1, Len: 2, Look: 2, Valid: 1, After: "s"}, {Term: 2, Valid: 1, After: "s"}, {Term: 3, Look: 1, Valid: 1, After: "s"}, {Term: 4, Valid: 1, After: "u"}}
	for _, c := range []struct {
		e          api.Edit
		many       int
		at2, after int // the token at 2, and behind what comes
	}{
		{api.Edit{At: 2, Ins: "xyz"}, 4, 2, 2},
		{api.Edit{At: 2}, 4, 2, 2},
		{api.Edit{At: 1}, 3, 2, 0},
		{api.Edit{At: 1, Del: 1}, 3, 0, 0},
		{api.Edit{At: 1, Ins: "x"}, 3, 0, 0},
	} {
		o := check(t, 2, api.Result{Leaves: l}, c.e)
		f, ok := o.Find(2, "s", 1)
		g, also := o.Find(2+len(c.e.Ins), "s", 1)
		if o.Standing() != c.many || f.Term != c.at2 || ok != (c.at2 > 0) || c.after > 0 && (g.Term != c.after || !also) {
			t.Errorf("17.2, 17.3: %+v: %d stand, %+v, %v, and behind %+v, %v", c.e, o.Standing(), f, ok, g, also)
		}
	}
	// one ahead and one behind of what goes meet at one place: the first one is found
	l = []api.Leaf{{Term: 1, Len: 1, Look: 1, Valid: 1, After: "s"}, {Term: 2, Valid: 1, After: "s"}, {Term: 3, Len: 1, Look: 1, Valid: 1, After: "s"}, {Term: 4, Valid: 1, After: "s"}}
	o := check(t, 2, api.Result{Leaves: l}, api.Edit{At: 1, Del: 1})
	if f, ok := o.Find(1, "s", 1); !ok || f.Term != 2 || o.Standing() != 3 {
		t.Errorf("17.3: %+v, %v, %d stand", f, ok, o.Standing())
	}
	l[1].Valid = 2
	o = check(t, 2, api.Result{Leaves: l}, api.Edit{At: 1, Del: 1})
	if f, ok := o.Find(1, "s", 1); !ok || f.Term != 4 {
		t.Errorf("17.3: %+v, %v", f, ok)
	}
}

// 17.3: of several at one place the first one whose state and valid set are asked for; the state ahead is the After of the leaf ahead, be that touched or not.
func TestSeveralAtOnePlace(t *testing.T) {
	l := []api.Leaf{{Term: 9, Len: 1, Look: 1, After: "a"}}
	for i, after := range []string{"b", "b", "a", "b", "a"} {
		l = append(l, api.Leaf{Term: i, Valid: api.Terms(1 + i%2), After: after})
	}
	o := check(t, 1, api.Result{Leaves: l}, api.Edit{Del: 1, Ins: "xy"}) // the first one goes
	for _, c := range []struct {
		before string
		valid  api.Terms
		term   int
		ok     bool
	}{{"a", 1, 0, true}, {"a", 2, 3, true}, {"b", 1, 2, true}, {"b", 2, 1, true}, {"b", 3, 0, false}, {"b", 0, 0, false}, {"", 1, 0, false}, {"ab", 1, 0, false}, {start(), 1, 0, false}} {
		f, ok := o.Find(2, c.before, c.valid)
		if ok != c.ok || f.Term != c.term || !ok && f != (api.Leaf{}) {
			t.Errorf("17.3: Find(2, %q, %d) = %+v, %v", c.before, c.valid, f, ok)
		}
	}
	if _, ok := o.Find(0, start(), 0); ok || o.Standing() != 5 {
		t.Errorf("17.2: %d stand", o.Standing())
	}
}

// 17.6: of an edit that is clamped to nothing at the text's end.
func TestNothingDone(t *testing.T) {
	r := rand.New(rand.NewSource(172))
	ended := 0
	for range 500 {
		l := anyLeaves(r)
		for i := range l {
			l[i].Valid = 1 << i // so that each is found by itself
		}
		n := lengthOf(l) + pick(r, 0, 0, 1)
		for _, e := range []api.Edit{{At: n}, {At: n, Del: 5}, {At: math.MaxInt, Del: math.MaxInt}, {At: n + 1, Del: -1}} {
			o := check(t, n, api.Result{Leaves: l}, e)
			at, before, want := 0, start(), 0
			for _, f := range l {
				stands := at+f.Look <= n || at == n
				if g, ok := o.Find(at, before, f.Valid); ok != stands || ok && g != f {
					t.Fatalf("17.6: %d, %+v: %+v at %d: %+v, %v", n, e, f, at, g, ok)
				}
				if stands {
					want++
				} else {
					ended++
				}
				at, before = at+f.Pad+f.Len, f.After
			}
			if o.Standing() != want {
				t.Fatalf("17.6: %d, %+v: %d of %+v stand, want %d", n, e, o.Standing(), l, want)
			}
		}
	}
	if ended < 300 {
		t.Errorf("only %d have looked at the end", ended)
	}
}

// anyLeaves: a few leaves, right for the sum of their bytes, many of them alike.
func anyLeaves(r *rand.Rand) []api.Leaf {
	var out []api.Leaf
	for range r.Intn(9) {
		out = append(out, api.Leaf{Term: r.Intn(4), Pad: pick(r, 0, 0, 0, 1, 2), Len: pick(r, 0, 0, 1, 1, 3), Look: pick(r, 0, 0, 1, 2, 3, 6), Valid: api.Terms(r.Intn(2)), After: pick(r, start(), start(), "t")})
	}
	return out
}

func lengthOf(l []api.Leaf) int {
	n := 0
	for _, f := range l {
		n += f.Pad + f.Len
	}
	return n
}

// anyEdit: one of a text of about n bytes, its numbers within it or not.
func anyEdit(r *rand.Rand, n int) api.Edit {
	at := pick(r, r.Intn(n+1), r.Intn(n+1), r.Intn(n+1), n, -1, n+1, math.MinInt, math.MaxInt)
	del := pick(r, 0, 0, 1, 2, r.Intn(n+1), n, -1, math.MinInt, math.MaxInt)
	return api.Edit{At: at, Del: del, Ins: pick(r, "", "", "x", "yz", "long enough")}
}

// 17.1, 17.2, 17.3, 17.5: leaves as they come, behind edits as they come; of an edit and of the clamped one the same.
func TestAnyLeaves(t *testing.T) {
	r := rand.New(rand.NewSource(173))
	seen := map[string]int{}
	for range 10000 {
		l := anyLeaves(r)
		n := lengthOf(l) + r.Intn(4) - 1
		x, e := api.Result{Leaves: l}, anyEdit(r, max(n, 0))
		o := check(t, n, x, e)
		if again := check(t, n, x, edit.Clamp(n, e)); again.Standing() != o.Standing() {
			t.Fatalf("17.1: %+v and clamped: %d and %d stand", e, o.Standing(), again.Standing())
		}
		if plainRight(n, x) {
			seen["right"]++
		} else {
			seen["not right"]++
		}
		for _, p := range plain(n, x, e) {
			seen[[]string{"touched", "at one place", "at two places"}[len(p.at)]]++
		}
	}
	enough(t, 400, seen, "right", "not right", "touched", "at one place", "at two places")
}

// 17.5: a few leaves behind every edit.
func TestAllEdits(t *testing.T) {
	r := rand.New(rand.NewSource(174))
	for range 40 {
		l := anyLeaves(r)
		n := lengthOf(l)
		for at := -1; at <= n+1; at++ {
			for del := -1; del <= n+1; del++ {
				for _, ins := range []string{"", "x", "abc"} {
					check(t, n, api.Result{Leaves: l}, api.Edit{At: at, Del: del, Ins: ins})
				}
			}
		}
	}
}
