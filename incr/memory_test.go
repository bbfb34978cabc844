package incr_test

import (
	"math"
	"math/rand"
	"reflect"
	"slices"
	"strings"
	"testing"
	"time"
	"unsafe"

	"trellis/api"
	"trellis/edit"
	"trellis/incr"
	"trellis/parse"
)

// lent: a text whose bytes the test may write over, as nobody else does.
func lent(s string) (string, func()) {
	b := []byte(s)
	return unsafe.String(unsafe.SliceData(b), len(b)), func() {
		for i := range b {
			b[i] = '#'
		}
	}
}

// copied: a value with lists of its own, each with so much spare room; -1: with all of the old ones' spare room as its length.
func copied(v reflect.Value, spare int) reflect.Value {
	out := reflect.New(v.Type()).Elem()
	switch v.Kind() {
	case reflect.Slice:
		n := v.Len()
		if spare < 0 {
			n = v.Cap()
		}
		out = reflect.MakeSlice(v.Type(), n, n+max(spare, 0))
		for i := range n {
			out.Index(i).Set(copied(v.Slice(0, n).Index(i), spare))
		}
	case reflect.Struct:
		for i := range v.NumField() {
			out.Field(i).Set(copied(v.Field(i), spare))
		}
	case reflect.String:
		out.SetString(strings.Clone(v.String()))
	default:
		out.Set(v)
	}
	return out
}

// roomy: a copy with spare room in all its lists. whole: one that has what is in the spare room, too.
func roomy[T any](x T) T { return copied(reflect.ValueOf(x), 2).Interface().(T) }
func whole[T any](x T) T { return copied(reflect.ValueOf(x), -1).Interface().(T) }

// filled: all of the list's room is written into.
func filled[T any](l []T, x T) {
	l = l[:cap(l)]
	for i := range l {
		l[i] = x
	}
}

func wiped(r api.Result) {
	filled(r.Leaves, api.Leaf{Term: 9, Pad: -1, Look: 3, After: "wiped"})
	filled(r.Nodes, api.Node{Name: "wiped", Kids: 7})
}

// answer: all that a call has answered.
type answer struct {
	text  string
	r     api.Result
	stats api.Stats
	code  api.Errno
}

func asked(l api.Lang, text string, old api.Result, e api.Edit) answer {
	behind, r, stats, code := incr.Reparse(l, text, old, e)
	return answer{behind, r, stats, code}
}

func (a answer) is(b answer) bool {
	return a.text == b.text && same(a.r, b.r) && a.stats == b.stats && a.code == b.code
}

// overlaps: have the two texts a byte of memory in common?
func overlaps(a, b string) bool {
	x, y := uintptr(unsafe.Pointer(unsafe.StringData(a))), uintptr(unsafe.Pointer(unsafe.StringData(b)))
	return a != "" && b != "" && x < y+uintptr(len(b)) && y < x+uintptr(len(a))
}

// checkMemory: a call whose arguments are written over behind it, and then its answer.
func checkMemory(t *testing.T, l api.Lang, text string, e api.Edit) {
	t.Helper()
	old := parse.Parse(l, text)
	want := asked(l, text, old, e)
	given := roomy(old)
	spoilt := []func(){}
	borrow := func(s string) string {
		s, spoil := lent(s)
		spoilt = append(spoilt, spoil)
		return s
	}
	mine, ins := borrow(text), borrow(e.Ins)
	for i := range given.Leaves {
		given.Leaves[i].After = borrow(given.Leaves[i].After)
	}
	before, language := whole(given), whole(l)
	got := asked(l, mine, given, api.Edit{At: e.At, Del: e.Del, Ins: ins})
	if !reflect.DeepEqual(whole(given), before) || mine != text || ins != e.Ins || !reflect.DeepEqual(whole(l), language) {
		t.Fatalf("P2: %s: %q, %+v: what was handed in has been changed", l.Name, text, e)
	}
	if overlaps(got.text, mine) || overlaps(got.text, ins) {
		t.Fatalf("P2: %s: %q, %+v: the text behind is no new memory", l.Name, text, e)
	}
	for _, f := range got.r.Leaves {
		for _, g := range given.Leaves {
			if overlaps(f.After, g.After) {
				t.Fatalf("P2: %s: %q, %+v: %+v is no new memory", l.Name, text, e, f)
			}
		}
	}
	wiped(given)
	for _, spoil := range spoilt {
		spoil()
	}
	if !got.is(want) {
		t.Fatalf("P2: %s: %q, %+v: behind writing into the arguments %+v, want %+v", l.Name, text, e, got, want)
	}
	wiped(got.r)
	if again := asked(l, text, old, e); !again.is(want) {
		t.Fatalf("P2, P3: %s: %q, %+v: then %+v, want %+v", l.Name, text, e, again, want)
	}
}

// P2, P3: nothing that is handed in is changed or kept, nothing that is handed out is held; the same is answered again.
func TestMemory(t *testing.T) {
	r := rand.New(rand.NewSource(182))
	for _, s := range samples() {
		l := roomy(loaded(t, s.defn))
		for _, text := range s.texts {
			for _, e := range []api.Edit{{}, {At: len(text)}, {Del: len(text), Ins: text}, {Del: len(text)}, {At: 1}} {
				checkMemory(t, l, text, e)
			}
			for range 12 {
				checkMemory(t, l, text, changed(r, text, s.pieces))
			}
		}
		checkMemory(t, l, "", api.Edit{Ins: s.texts[0]})
		checkMemory(t, l, s.texts[0], huge(r))
	}
}

// P3: what is asked in between changes nothing.
func TestApart(t *testing.T) {
	r := rand.New(rand.NewSource(183))
	type question struct {
		l    api.Lang
		text string
		e    api.Edit
		want answer
	}
	var all []question
	for _, s := range samples() {
		l := loaded(t, s.defn)
		for range 10 {
			text := pick(r, s.texts...)
			e := changed(r, text, s.pieces)
			all = append(all, question{l, text, e, asked(l, text, parse.Parse(l, text), e)})
		}
	}
	for range 3 {
		for _, i := range r.Perm(len(all)) {
			q := all[i]
			if got := asked(q.l, q.text, parse.Parse(q.l, q.text), q.e); !got.is(q.want) {
				t.Fatalf("P3: %s: %q, %+v: %+v, want %+v", q.l.Name, q.text, q.e, got, q.want)
			}
		}
	}
}

// soon: fails if a call takes long.
func soon(t *testing.T, name string, call func()) {
	t.Helper()
	done := make(chan bool)
	go func() { defer close(done); call() }()
	select {
	case <-done:
	case <-time.After(time.Minute):
		t.Fatalf("P1: %s: no end", name)
	}
}

// odd: a result that may be no text's.
func odd(r *rand.Rand, old api.Result) api.Result {
	old = roomy(old)
	number := func() int {
		return pick(r, 0, 1, 2, -1, r.Intn(9), 1<<20, 1<<20+1, math.MaxInt, math.MinInt)
	}
	for range r.Intn(4) {
		f := api.Leaf{Term: number(), Pad: pick(r, 0, 0, 1, number()), Len: pick(r, 0, 1, number()), Look: pick(r, 0, 1, number()), Valid: pick(r, api.Terms(r.Uint64()), 3, 0), After: pick(r, start(), "", "S", "\x00\xff", start()+"x")}
		old.Leaves = slices.Insert(old.Leaves, r.Intn(len(old.Leaves)+1), f)
	}
	for i := range old.Leaves {
		f := &old.Leaves[i]
		switch r.Intn(12) {
		case 0:
			f.Look = r.Intn(3)
		case 1:
			f.Len, f.Look = r.Intn(3), 0
		case 2:
			f.Pad = r.Intn(2)
		case 3:
			f.Term = r.Intn(6)
		case 4:
			f.After = pick(r, start(), old.Leaves[r.Intn(len(old.Leaves))].After)
		}
	}
	old.Code, old.At, old.Want, old.Roots = api.Errno(number()), number(), api.Terms(r.Uint64()), number()
	if r.Intn(3) == 0 {
		old.Nodes = []api.Node{{Kids: number(), Leaf: number(), From: number(), To: number()}}
	}
	return old
}

// P1: results that are not the text's: the call ends, and the text behind is told all the same.
func TestOtherResults(t *testing.T) {
	r := rand.New(rand.NewSource(181))
	kept := 0
	for _, s := range samples() {
		l := loaded(t, s.defn)
		soon(t, s.defn, func() {
			for range 200 {
				text := pick(r, s.texts...)
				old := odd(r, parse.Parse(l, pick(r, s.texts...)))
				e := changed(r, text, s.pieces)
				got := asked(l, text, old, e)
				if behind, ok := plainText(text, e); !ok || got.code != api.OK || got.text != behind {
					t.Errorf("18.1: %s: %q, %+v, %+v: %q, %d", l.Name, text, old, e, got.text, got.code)
				}
				kept += got.stats.Kept
			}
		})
		for _, old := range []api.Result{{}, {Code: api.ErrBig}, {Leaves: []api.Leaf{{Pad: math.MaxInt, Len: math.MaxInt}}}, {Leaves: []api.Leaf{{Look: -1}}}} { // in which nothing stands
			got := asked(l, s.texts[0], old, api.Edit{})
			if !same(got.r, parse.Parse(l, s.texts[0])) || got.stats.Kept != 0 {
				t.Errorf("18.1: %s: %+v: %+v", l.Name, old, got)
			}
		}
	}
	if kept < 1000 {
		t.Errorf("only %d leaves were kept", kept)
	}
}

// P1: values that are no languages, and languages with the results of others.
func TestNoLanguages(t *testing.T) {
	reduce, shift := api.Action{Kind: api.ActionReduce, N: 1}, api.Action{Kind: api.ActionShift}
	g := api.Gram{Terms: []api.TermDef{{}, {Name: "a"}}, Syms: []api.Sym{{Name: "s", Kind: api.SymShown}}, Prods: []api.Prod{{Lhs: -1, Rhs: []api.Ref{{Sym: 2}}}, {Lhs: 0}}}
	rules := []api.Rule{{Term: 1, Pat: api.PatLit, Lit: "a", In: []int{-1}}, {Term: 1, Pat: api.PatEmpty, In: []int{-1}}}
	for _, l := range []api.Lang{
		{}, {Gram: g}, {Rules: rules}, {Gram: g, Rules: rules},
		{Gram: g, Rules: rules, Table: api.Table{Actions: [][]api.Action{{reduce, reduce}}, Gotos: [][]int{{0}}}},
		{Gram: g, Rules: rules, Table: api.Table{Actions: [][]api.Action{{shift, shift}}, Gotos: [][]int{{0}}}},
		{Rules: rules, Table: api.Table{Actions: [][]api.Action{{shift, {Kind: api.ActionShift, N: 7}}}}},
		{Gram: g, Table: api.Table{Actions: [][]api.Action{{{Kind: 9, N: -1}, {Kind: api.ActionReduce, N: math.MinInt}}}, Gotos: [][]int{{math.MaxInt}}}},
	} {
		soon(t, "no language", func() {
			for _, text := range []string{"", "aa", "ab"} {
				for _, old := range []api.Result{{}, parse.Parse(l, text), {Leaves: []api.Leaf{{Term: 1, Len: 1, Look: 1, Valid: 3, After: start()}, {Term: 1, Valid: 3, After: start()}}}} {
					if behind, _, _, code := incr.Reparse(l, text, old, api.Edit{At: 1, Ins: "a"}); code != api.OK || len(behind) != len(text)+1 {
						t.Errorf("18.1: %q, %d", behind, code)
					}
				}
			}
		})
	}
	for _, s := range samples() {
		for _, u := range samples() {
			old := parse.Parse(loaded(t, u.defn), u.texts[0])
			asked(loaded(t, s.defn), u.texts[0], old, api.Edit{At: 1, Del: 1, Ins: "a"})
		}
	}
}

// P1, P8, P9: the longest texts, with as many leaves as there may be, and trees as deep.
func TestHuge(t *testing.T) {
	half := 32767
	for _, c := range []struct {
		defn, text string
		e          api.Edit
		code       api.Errno
		stats      api.Stats
	}{
		{`language l; token a /a/; rule s = "(" s ")" | a;`, strings.Repeat("(", half) + "a" + strings.Repeat(")", half), api.Edit{At: half, Ins: "("}, api.ErrSyntax, api.Stats{Scanned: 2, Kept: 2*half + 1}},
		{`language l; skip / +/; token a /a/; rule s = a s | ();`, strings.Repeat("               a", 1<<16), api.Edit{At: 1 << 19, Del: 1, Ins: " "}, api.OK, api.Stats{Scanned: 1, Kept: 1 << 16}},
		{`language l; skip / +/; token a /a/; rule s = a s | ();`, strings.Repeat("               a", 1<<16), api.Edit{At: 1 << 19, Del: 16}, api.OK, api.Stats{Scanned: 0, Kept: 1 << 16}},
		{`language l; skip / +/; token a /a/; rule s = a*;`, strings.Repeat("               a", 1<<16), api.Edit{Del: 1 << 20, Ins: "a"}, api.OK, api.Stats{Scanned: 1, Kept: 1}},
		{layout, "if a:\n", api.Edit{At: 6, Ins: " " + strings.Repeat("b\n ", 32000) + "c\n"}, api.OK, api.Stats{Scanned: 64006, Kept: 3}},
	} {
		soon(t, c.defn, func() {
			l := loaded(t, c.defn)
			old := parse.Parse(l, c.text)
			behind, r, stats, code := incr.Reparse(l, c.text, old, c.e)
			if code != api.OK || r.Code != c.code || stats != c.stats || !same(r, parse.Parse(l, behind)) {
				t.Errorf("P8, P9: %s: %d, %d at %d, %+v, want %+v", c.defn, code, r.Code, r.At, stats, c.stats)
			}
			if back, p, _, _ := incr.Reparse(l, behind, r, edit.Invert(c.text, c.e)); back != c.text || !same(p, old) {
				t.Errorf("P12: %s: %d at %d", c.defn, p.Code, p.At)
			}
		})
	}
}
