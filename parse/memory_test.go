package parse_test

import (
	"math"
	"math/rand"
	"reflect"
	"slices"
	"strconv"
	"testing"
	"time"

	"trellis/api"
	"trellis/parse"
	"trellis/tree"
)

// copied: a value with lists of its own, each with so much spare room; -1: with all of the old ones' spare room as its length.
func copied(v reflect.Value, spare int) reflect.Value {
	out := reflect.New(v.Type()).Elem()
	switch v.Kind() {
	case reflect.Slice:
		n := v.Len()
		if spare < 0 {
			n = v.Cap()
		}
		out = reflect.MakeSlice(v.Type(), n, n+max(spare, 0))
		for i := range n {
			out.Index(i).Set(copied(v.Slice(0, n).Index(i), spare))
		}
	case reflect.Struct:
		for i := range v.NumField() {
			out.Field(i).Set(copied(v.Field(i), spare))
		}
	default:
		out.Set(v)
	}
	return out
}

// roomy: a copy with spare room in all its lists. whole: one that has what is in the spare room, too.
func roomy[T any](x T) T { return copied(reflect.ValueOf(x), 2).Interface().(T) }
func whole[T any](x T) T { return copied(reflect.ValueOf(x), -1).Interface().(T) }

// filled: all of the list's room is written into.
func filled[T any](l []T, x T) {
	l = l[:cap(l)]
	for i := range l {
		l[i] = x
	}
}

func wiped(r api.Result) {
	filled(r.Leaves, api.Leaf{Term: 9, After: "wiped"})
	filled(r.Nodes, api.Node{Name: "wiped", Kids: 7})
}

// P2, P3: nothing that is handed in is changed or kept, nothing that is handed out is held; the same is answered again.
func TestMemory(t *testing.T) {
	r := rand.New(rand.NewSource(167))
	for _, s := range samples() {
		l := roomy(loaded(t, s.defn).lang)
		before := whole(l)
		for _, text := range s.texts {
			text = spoilt(r, text, s.pieces)
			one := parse.Parse(l, text)
			want := roomy(one)
			wiped(one)
			two := parse.Parse(l, text)
			if !same(two, want) {
				t.Fatalf("P2, P3: %s: %q: %+v, then %+v", s.defn, text, want, two)
			}
			src := &teller{leaves: roomy(two.Leaves), has: func(n int) bool { return n%2 == 0 }}
			with, _ := parse.With(l, text, src)
			if !reflect.DeepEqual(whole(src.leaves), whole(roomy(two.Leaves))) {
				t.Fatalf("P2: %s: %q: the source's leaves have been changed", s.defn, text)
			}
			filled(src.leaves, api.Leaf{})
			leaves := roomy(two.Leaves)
			nodes, valid, ok := parse.Follow(l, leaves)
			if !reflect.DeepEqual(whole(leaves), whole(roomy(two.Leaves))) {
				t.Fatalf("P2: %s: %q: the leaves have been changed", s.defn, text)
			}
			filled(leaves, api.Leaf{Term: 3})
			wiped(two)
			if !same(with, want) || !ok || valid != want.Want || !slices.Equal(nodes, want.Nodes) {
				t.Fatalf("P2: %s: %q: the answer is bound to other memory", s.defn, text)
			}
			filled(nodes, api.Node{Kids: -1})
			again, _, _ := parse.Follow(l, want.Leaves)
			if !slices.Equal(again, want.Nodes) {
				t.Fatalf("P3: %s: %q: %+v, want %+v", s.defn, text, again, want.Nodes)
			}
		}
		if !reflect.DeepEqual(whole(l), before) {
			t.Fatalf("P2: the language of %s has been changed", s.defn)
		}
	}
}

// soon: fails if a call takes long.
func soon(t *testing.T, name string, call func()) {
	t.Helper()
	done := make(chan bool)
	go func() { defer close(done); call() }()
	select {
	case <-done:
	case <-time.After(30 * time.Second):
		t.Fatalf("P1: %s does not end", name)
	}
}

// 16.8: as many leaves as there may be, in all ways in which productions lie in one another.
func TestHuge(t *testing.T) {
	const a = "language l; token a /a/; "
	many, half := times(65536, "a"), 32767
	for _, c := range []struct {
		defn, text   string
		code         api.Errno
		nodes, roots int
		fields, kids int // how many nodes have a field, how many children the first one has
	}{
		{a + "rule s = a*;", many, api.OK, 65537, 1, 0, 65536},
		{a + "rule s = f: (a*);", many, api.OK, 65537, 1, 65536, 65536},
		{a + "rule s = f: a*;", many, api.OK, 65537, 1, 65536, 65536},
		{a + "rule s = a*;", many + "a", api.ErrLeaves, 65536, 65536, 0, 0},
		{a + "rule s = f: (a*);", many + "a", api.ErrLeaves, 65536, 65536, 0, 0},
		{a + "rule s = f: a*;", many + "a", api.ErrLeaves, 65536, 65536, 65535, 0},
		{a + "rule _s = a _s | ();", many, api.OK, 65536, 65536, 0, 0},
		{a + "rule _s = a f: _s | ();", many, api.OK, 65536, 65536, 65535, 0},
		{a + "rule _s = f: _s a | ();", many, api.OK, 65536, 65536, 65535, 0},
		{a + "rule s = a s | ();", many, api.OK, 131073, 1, 0, 2},
		{a + "rule s = a s | ();", many + "a", api.ErrLeaves, 65536, 65536, 0, 0},
		{a + "rule s = s a | ();", many, api.OK, 131073, 1, 0, 2},
		{a + "rule s = s a | ();", many + "a", api.ErrLeaves, 131072, 2, 0, 2},
		{a + "rule _s = _s@n a | ();", many, api.OK, 131072, 2, 0, 2},
		{a + "rule _s = a _s@n | ();", many, api.OK, 131072, 2, 0, 0},
		{a + `rule s = "(" s ")" | a;`, times(half, "(") + "a" + times(half, ")"), api.OK, 3*half + 2, 1, 0, 3},
		{a + `rule s = "(" s ")" | a;`, times(half, "(") + "a", api.ErrSyntax, half + 1, half + 1, 0, 0},
		{a + "rule s = _t*; rule _t = h h h h a h h h h; rule h = ();", many, api.OK, 9*65536 + 1, 1, 0, 9 * 65536},
	} {
		l := loaded(t, c.defn).lang
		soon(t, c.defn, func() {
			r := parse.Parse(l, c.text)
			fields := 0
			for _, n := range r.Nodes {
				if n.Field != "" {
					fields++
				}
			}
			if r.Code != c.code || len(r.Nodes) != c.nodes || r.Roots != c.roots || tree.Roots(r.Nodes) != c.roots || fields != c.fields || r.Nodes[0].Kids != c.kids {
				t.Errorf("16.8: %s: %d at %d, %d nodes, %d roots, %d fields, %+v", c.defn, r.Code, r.At, len(r.Nodes), r.Roots, fields, r.Nodes[0])
			}
			if nodes, v, ok := parse.Follow(l, r.Leaves); !ok || v != r.Want || !slices.Equal(nodes, r.Nodes) {
				t.Errorf("16.6: %s: %d nodes, %x, %v", c.defn, len(nodes), v, ok)
			}
		})
	}
}

// 16.8: all that can be asked for on one token: symbols one above the other, and many that become nothing.
func TestManyReductions(t *testing.T) {
	chain, hollow := "language l; token a /a/; ", "language l; token a /a/; rule r0 = r1 r0 | (); "
	for i := range 119 {
		chain += "rule r" + strconv.Itoa(i) + " = r" + strconv.Itoa(i+1) + "; "
	}
	chain += `rule r119 = a | "(" r0 ")";`
	for i := 1; i < 12; i++ {
		hollow += "rule r" + strconv.Itoa(i) + " = " + times(30, "h ") + "r" + strconv.Itoa(i+1) + " " + times(30, "h ") + "; "
	}
	hollow += "rule r12 = a; rule h = ();"
	r := parse.Parse(loaded(t, hollow).lang, times(50, "a"))
	if want := 50*(12+11*60+1) + 51; r.Code != api.OK || len(r.Nodes) != want || r.Roots != 1 {
		t.Errorf("16.8: %d at %d, %d nodes, want %d", r.Code, r.At, len(r.Nodes), want)
	}
	r = parse.Parse(loaded(t, chain).lang, times(300, "(")+"a"+times(300, ")"))
	if want := 301*120 + 601; r.Code != api.OK || len(r.Nodes) != want || r.Roots != 1 {
		t.Errorf("16.8: %d at %d, %d nodes, want %d", r.Code, r.At, len(r.Nodes), want)
	}
}

// endless: languages made by hand in which reductions have no end: the stack grows, goes round, grows and shrinks.
func endless() []api.Lang {
	act := func(kind api.ActionKind, n int) []api.Action {
		return []api.Action{{Kind: kind, N: n}, {Kind: kind, N: n}}
	}
	g := api.Gram{
		Terms: []api.TermDef{{}, {Name: "a"}}, Syms: []api.Sym{{Name: "s", Kind: api.SymShown}, {Name: "_t", Kind: api.SymHidden}},
		Prods: []api.Prod{{Lhs: -1, Rhs: []api.Ref{{Sym: 2}}}, {Lhs: 0}, {Lhs: 1, Rhs: []api.Ref{{Sym: 2}}}, {Lhs: 0, Rhs: []api.Ref{{Sym: 3, As: "n"}}}, {Lhs: 1, Rhs: []api.Ref{{Sym: 3}, {Sym: 2}}}},
	}
	reduce := func(n int) []api.Action { return act(api.ActionReduce, n) }
	rules := []api.Rule{{Term: 1, Pat: api.PatLit, Lit: "a", In: []int{-1}}, {Term: 1, Pat: api.PatEmpty, In: []int{-1}}}
	var out []api.Lang
	for _, t := range []api.Table{
		{Actions: [][]api.Action{reduce(1)}, Gotos: [][]int{{0, 0}}},
		{Actions: [][]api.Action{reduce(1), reduce(2), reduce(3)}, Gotos: [][]int{{1, 2}, {1, 2}, {1, 2}}},
		{Actions: [][]api.Action{reduce(1), reduce(2), reduce(1), reduce(4)}, Gotos: [][]int{{1, 2}, {3, 2}, {3, 2}, {3, 2}}},
		{Actions: [][]api.Action{reduce(1), act(api.ActionShift, 0)}, Gotos: [][]int{{1, 1}, {1, 1}}},
		{Actions: [][]api.Action{{{Kind: api.ActionAccept}, {Kind: api.ActionAccept}}}},
		{Actions: [][]api.Action{act(api.ActionShift, 0)}},
		{Actions: [][]api.Action{act(api.ActionShift, 5)}},
		{Actions: [][]api.Action{act(api.ActionShift, -1)}},
		{Actions: [][]api.Action{reduce(-1)}}, {Actions: [][]api.Action{reduce(5)}}, {Actions: [][]api.Action{reduce(2)}}, {Actions: [][]api.Action{reduce(1)}},
		{Actions: [][]api.Action{reduce(1)}, Gotos: [][]int{{}}}, {Actions: [][]api.Action{reduce(1)}, Gotos: [][]int{{-1}}}, {Actions: [][]api.Action{reduce(1)}, Gotos: [][]int{{9}}},
		{Actions: [][]api.Action{reduce(0)}, Gotos: [][]int{{0}}},
		{},
	} {
		out = append(out, api.Lang{Gram: g, Rules: rules, Table: t}, api.Lang{Rules: rules, Table: t}, api.Lang{Gram: g, Table: t})
	}
	return append(out, api.Lang{})
}

func askAll(l api.Lang, text string, r *rand.Rand) {
	got := parse.Parse(l, text)
	parse.With(l, text, &liar{r, []string{start()}, 0})
	parse.Follow(l, got.Leaves)
	parse.Follow(l, []api.Leaf{{Term: 1}, {Term: 2, Len: 1}, {}})
	parse.Follow(l, slices.Repeat([]api.Leaf{{Term: 1 + r.Intn(3)}}, 20))
}

// P1: values that are no languages.
func TestNoLanguages(t *testing.T) {
	r := rand.New(rand.NewSource(168))
	soon(t, "no language", func() {
		for _, l := range endless() {
			askAll(l, "", r)
			askAll(l, "aab a", r)
		}
	})
	for _, s := range samples() {
		soon(t, s.defn, func() {
			whole := loaded(t, s.defn).lang
			for range 250 {
				l := roomy(whole)
				for range 1 + r.Intn(4) {
					broken(r, &l)
				}
				askAll(l, pick(r, s.texts...), r)
			}
		})
	}
}

// broken: something of a language is another thing.
func broken(r *rand.Rand, l *api.Lang) {
	g, t := &l.Gram, &l.Table
	number := func() int {
		return pick(r, r.Intn(8), r.Intn(40), r.Intn(300), -1, math.MaxInt, math.MinInt)
	}
	row := func(n int) int { return r.Intn(max(1, n)) }
	switch k := r.Intn(12); {
	case k < 5 && len(t.Actions) > 0:
		if a := t.Actions[row(len(t.Actions))]; len(a) > 0 {
			a[row(len(a))] = api.Action{Kind: api.ActionKind(r.Intn(6) - 1), N: number()}
		}
	case k < 7 && len(t.Gotos) > 0:
		if a := t.Gotos[row(len(t.Gotos))]; len(a) > 0 {
			a[row(len(a))] = number()
		}
	case k == 7 && len(t.Actions) > 0 && len(t.Gotos) > 0:
		i, j := row(len(t.Actions)), row(len(t.Gotos))
		t.Actions[i], t.Gotos[j] = t.Actions[i][:r.Intn(len(t.Actions[i])+1)], t.Gotos[j][:r.Intn(len(t.Gotos[j])+1)]
		t.Actions = t.Actions[:r.Intn(len(t.Actions)+1)]
	case k == 8 && len(g.Prods) > 0:
		p := &g.Prods[row(len(g.Prods))]
		p.Lhs = number()
		p.Rhs = append(p.Rhs[:r.Intn(len(p.Rhs)+1)], make([]api.Ref, r.Intn(3))...)
	case k == 9:
		g.Prods = g.Prods[:r.Intn(len(g.Prods)+1)]
	case k == 10:
		g.Terms, g.Syms = g.Terms[:r.Intn(len(g.Terms)+1)], g.Syms[:r.Intn(len(g.Syms)+1)]
	case len(l.Rules) > 0:
		l.Rules[row(len(l.Rules))].Term = number()
	}
}
