package ranges_test

import (
	"fmt"
	"math"
	"math/rand"
	"reflect"
	"slices"
	"strings"
	"testing"
	"time"
	"unsafe"

	"trellis/api"
	"trellis/edit"
	"trellis/parse"
	"trellis/ranges"
)

// lent: a text whose bytes the test may write over, as nobody else does.
func lent(s string) (string, func()) {
	b := []byte(s)
	return unsafe.String(unsafe.SliceData(b), len(b)), func() {
		for i := range b {
			b[i] = '?'
		}
	}
}

// overlaps: have the two texts a byte of memory in common?
func overlaps(a, b string) bool {
	x, y := uintptr(unsafe.Pointer(unsafe.StringData(a))), uintptr(unsafe.Pointer(unsafe.StringData(b)))
	return a != "" && b != "" && x < y+uintptr(len(b)) && y < x+uintptr(len(a))
}

// given: a result with lists and names of its own, and spare room in which something stands; and how to write over all of it.
func given(r api.Result) (api.Result, func()) {
	var spoilt []func()
	out := r
	out.Leaves = append(slices.Clone(r.Leaves), api.Leaf{Term: 3, Len: 2}, api.Leaf{Term: 4, Len: 1})
	out.Nodes = append(slices.Clone(r.Nodes), api.Node{Name: "spare", To: 99}, api.Node{Name: "spare", To: 9})
	for i := range out.Nodes {
		name, spoil := lent(out.Nodes[i].Name)
		out.Nodes[i].Name, spoilt = name, append(spoilt, spoil)
	}
	leaves, nodes := out.Leaves, out.Nodes
	out.Leaves, out.Nodes = leaves[:len(r.Leaves)], nodes[:len(r.Nodes)]
	return out, func() {
		for i := range leaves {
			leaves[i] = api.Leaf{Term: 9, Pad: -1, After: "wiped"}
		}
		for i := range nodes {
			nodes[i] = api.Node{Name: "wiped", Kids: 7}
		}
		for _, spoil := range spoilt {
			spoil()
		}
	}
}

// room: a copy of the result as it stands, with what is in the spare room of its lists, too.
func room(r api.Result) api.Result {
	r.Leaves, r.Nodes = slices.Clone(r.Leaves[:cap(r.Leaves)]), slices.Clone(r.Nodes[:cap(r.Nodes)])
	for i := range r.Nodes {
		r.Nodes[i].Name = strings.Clone(r.Nodes[i].Name)
	}
	return r
}

// filled: all of the list's room is written into.
func filled[T any](l []T, x T) {
	l = l[:cap(l)]
	for i := range l {
		l[i] = x
	}
}

// checkChainMemory: a call of Chain whose argument is written over behind it, and then its answer.
func checkChainMemory(t *testing.T, r api.Result, at int) {
	t.Helper()
	want := ranges.Chain(r, at)
	mine, spoil := given(r)
	before := room(mine)
	got := ranges.Chain(mine, at)
	if !reflect.DeepEqual(room(mine), before) {
		t.Fatalf("P2: at %d: the result has been changed", at)
	}
	for _, x := range mine.Nodes {
		for _, y := range got {
			if overlaps(x.Name, y) {
				t.Fatalf("P2: at %d: the name %s is no new memory", at, y)
			}
		}
	}
	spoil()
	if !slices.Equal(got, want) {
		t.Fatalf("P2: at %d: behind writing into the result %q, want %q", at, got, want)
	}
	filled(got, "wiped")
	if again := ranges.Chain(r, at); !slices.Equal(again, want) {
		t.Fatalf("P2, P3: at %d: then %q, want %q", at, again, want)
	}
}

// checkMemory: the same of Changed.
func checkMemory(t *testing.T, l api.Lang, text string, e api.Edit) {
	t.Helper()
	behind, _ := edit.Apply(text, e)
	old, now := parse.Parse(l, text), parse.Parse(l, behind)
	want := ranges.Changed(len(text), old, e, now)
	a, spoilA := given(old)
	b, spoilB := given(now)
	wasA, wasB := room(a), room(b)
	ins, spoilIns := lent(e.Ins)
	got := ranges.Changed(len(text), a, api.Edit{At: e.At, Del: e.Del, Ins: ins}, b)
	if !reflect.DeepEqual(room(a), wasA) || !reflect.DeepEqual(room(b), wasB) || ins != e.Ins {
		t.Fatalf("P2: %s: %q, %+v: what was handed in has been changed", l.Name, text, e)
	}
	spoilA()
	spoilB()
	spoilIns()
	if !slices.Equal(got, want) {
		t.Fatalf("P2: %s: %q, %+v: behind writing into the arguments %v, want %v", l.Name, text, e, got, want)
	}
	filled(got, api.Range{From: -1, To: -2})
	if again := ranges.Changed(len(text), old, e, now); !slices.Equal(again, want) {
		t.Fatalf("P2, P3: %s: %q, %+v: then %v, want %v", l.Name, text, e, again, want)
	}
}

// P2, P3: nothing that is handed in is changed or kept, nothing that is handed out is held; the same is answered again.
func TestMemory(t *testing.T) {
	r := rand.New(rand.NewSource(192))
	for _, s := range samples() {
		l := loaded(t, s.defn)
		for _, text := range append(s.texts, "", "?") {
			for at := -1; at < len(text)+2; at++ {
				checkChainMemory(t, parse.Parse(l, text), at)
			}
			for _, e := range []api.Edit{{}, {At: len(text)}, {Del: len(text), Ins: text}, {Del: len(text)}, {At: 1}, {Ins: text}} {
				checkMemory(t, l, text, e)
			}
			for range 12 {
				checkMemory(t, l, text, anEdit(r, text, s.pieces))
			}
		}
	}
}

// P3: what is asked in between changes nothing.
func TestApart(t *testing.T) {
	r := rand.New(rand.NewSource(191))
	type question struct {
		n        int
		old, now api.Result
		e        api.Edit
		at       int
		changed  []api.Range
		chain    []string
	}
	var all []question
	for _, s := range samples() {
		l := loaded(t, s.defn)
		for range 10 {
			text := pick(r, s.texts...)
			q := question{n: len(text), old: parse.Parse(l, text), e: fruitful(r, l, text, s.pieces), at: r.Intn(len(text) + 1)}
			behind, _ := edit.Apply(text, q.e)
			q.now = parse.Parse(l, behind)
			q.changed, q.chain = ranges.Changed(q.n, q.old, q.e, q.now), ranges.Chain(q.now, q.at)
			all = append(all, q)
		}
	}
	for range 3 {
		for _, i := range r.Perm(len(all)) {
			q := all[i]
			if got := ranges.Changed(q.n, q.old, q.e, q.now); !slices.Equal(got, q.changed) {
				t.Fatalf("P3: %+v: %v, want %v", q.e, got, q.changed)
			}
			if got := ranges.Chain(q.now, q.at); !slices.Equal(got, q.chain) {
				t.Fatalf("P3: at %d: %q, want %q", q.at, got, q.chain)
			}
		}
	}
}

// soon: fails if a call takes long.
func soon(t *testing.T, name string, call func()) {
	t.Helper()
	done := make(chan bool)
	go func() { defer close(done); call() }()
	select {
	case <-done:
	case <-time.After(30 * time.Second):
		t.Fatalf("P1, 19.2: %s: no end", name)
	}
}

// odd: a result that may be no text's.
func odd(r *rand.Rand, of api.Result) api.Result {
	number := func() int {
		return pick(r, 0, 1, 2, -1, r.Intn(9), r.Intn(9), 1<<20, 1<<20+1, math.MaxInt, math.MaxInt-1, math.MinInt)
	}
	out := api.Result{Code: api.Errno(number()), At: number(), Want: api.Terms(r.Uint64()), Roots: number()}
	out.Leaves, out.Nodes = slices.Clone(of.Leaves), slices.Clone(of.Nodes)
	for range r.Intn(4) {
		f := api.Leaf{Term: number(), Pad: pick(r, 0, 0, 1, number()), Len: pick(r, 0, 1, number()), Look: number()}
		out.Leaves = slices.Insert(out.Leaves, r.Intn(len(out.Leaves)+1), f)
	}
	for range r.Intn(4) {
		x := api.Node{Name: pick(r, "", "s", "#", "a name"), Kids: pick(r, 0, 0, 0, 1, number()), Leaf: number(), From: number(), To: number()}
		out.Nodes = slices.Insert(out.Nodes, r.Intn(len(out.Nodes)+1), x)
	}
	for i := range out.Nodes {
		switch x := &out.Nodes[i]; r.Intn(20) {
		case 0:
			x.From, x.To = x.To, x.From
		case 1:
			x.From = number()
		case 2:
			x.To = number()
		case 3:
			x.Kids = number()
		}
	}
	return out
}

// P1: results that are no text's, and lengths that are not theirs: the calls end, a chain has an entry, and the new bytes are told.
func TestOtherResults(t *testing.T) {
	r := rand.New(rand.NewSource(190))
	for _, s := range samples() {
		l := loaded(t, s.defn)
		soon(t, s.defn, func() {
			for range 400 {
				text := pick(r, s.texts...)
				old, now := odd(r, parse.Parse(l, text)), odd(r, parse.Parse(l, pick(r, s.texts...)))
				for _, at := range []int{0, r.Intn(9), len(text), -1, math.MaxInt, math.MaxInt - 1, math.MinInt} {
					if got := ranges.Chain(old, at); len(got) == 0 || !strings.HasPrefix(got[len(got)-1], "#") {
						t.Errorf("19.1: %+v at %d: %q", old, at, got)
					}
				}
				n, e := pick(r, len(text), r.Intn(20)), anEdit(r, text, s.pieces)
				origins := plainOrigins(n, e)
				got := ranges.Changed(n, old, e, now)
				if !shaped(len(origins), got) {
					t.Errorf("19.2: %+v, %+v, %+v: %v of %d bytes", old, e, now, got, len(origins))
					return
				}
				in := inside(len(origins), got)
				for at, from := range origins {
					if from < 0 && !in[at] {
						t.Errorf("19.2: %+v, %+v, %+v: %v: %d is new", old, e, now, got, at)
					}
				}
			}
		})
	}
}

// 19.1: leaves and nodes that no text has, one by one.
func TestOddChains(t *testing.T) {
	for _, c := range []struct {
		r    api.Result
		at   int
		want string
	}{
		{api.Result{Leaves: []api.Leaf{{Term: 2, Pad: math.MaxInt, Len: math.MaxInt}, {Term: 3, Len: 5}}}, 0, "#"},
		{api.Result{Leaves: []api.Leaf{{Term: 2, Len: 1}, {Term: 3, Pad: math.MinInt, Len: math.MinInt}, {Term: 4, Len: 5}}}, 0, "#2"},
		{api.Result{Leaves: []api.Leaf{{Term: 12, Len: 1}, {}, {Term: 61, Pad: 1, Len: 1}, {Term: 3}}}, 2, "#61"},
		{api.Result{Leaves: []api.Leaf{{Term: 12, Len: 1}}, Nodes: []api.Node{{Name: "a", To: 9, Kids: 1}}}, 0, "#12"}, // no forest
		{api.Result{Nodes: []api.Node{{Name: "a", To: 9, Kids: 1}, {Name: "b", From: 3, To: 9}}}, 2, "a #"},
		{api.Result{Nodes: []api.Node{{Name: "a", From: 3, To: 3}, {Name: "", From: math.MinInt, To: math.MaxInt}}}, 3, " #"},
	} {
		if got := told(ranges.Chain(c.r, c.at)); got != c.want {
			t.Errorf("19.1: %+v at %d: %q, want %q", c.r, c.at, got, c.want)
		}
	}
}

// 19.2: the work is that of going once over both trees and the bytes, however long the text is, and however deep its tree.
func TestHuge(t *testing.T) {
	const most = 1 << 20
	half := 32767
	nest := strings.Repeat("(", half) + "a" + strings.Repeat(")", half)
	wide := strings.Repeat("               a", 1<<16)
	deep := `language l; skip / +/; token a /a/; rule s = a s | ();`
	for _, c := range []struct {
		defn, text string
		e          api.Edit
		want       []api.Range
	}{
		{`language l; token a /a/; rule s = "(" s ")" | a;`, nest, api.Edit{At: half, Ins: "("}, []api.Range{{From: 0, To: 2*half + 2}}},
		{`language l; token a /a/; rule s = "(" s ")" | a;`, nest, api.Edit{At: half, Del: 1, Ins: "a"}, []api.Range{{From: half, To: half + 1}}},
		{`language l; token a /a/; rule s = "(" s ")" | a;`, nest, api.Edit{At: half - 1, Del: 3, Ins: "a"}, []api.Range{{From: half - 1, To: half}}},
		{deep, wide, api.Edit{At: 1 << 19, Del: 1, Ins: " "}, []api.Range{{From: 1 << 19, To: 1<<19 + 1}}},
		{deep, wide, api.Edit{At: 1 << 19, Del: 16}, []api.Range{{From: 1 << 19, To: most - 16}}}, // one less above all that follow
		{deep, wide[16:], api.Edit{At: 0, Ins: wide[:16]}, []api.Range{{From: 0, To: most}}},
		{deep, wide, api.Edit{}, nil},
		{`language l; skip / +/; token a /a/; rule s = a*;`, wide, api.Edit{At: 1 << 19, Del: 16}, nil},
		{`language l; skip / +/; token a /a/; rule s = a*;`, wide, api.Edit{Del: most, Ins: wide}, []api.Range{{From: 0, To: most}}},
		{`language l; skip / +/; token a /a/; rule s = a*;`, "", api.Edit{Ins: wide}, []api.Range{{From: 0, To: most}}},
		{`language l; skip / +/; token a /a/; rule s = a*;`, wide, api.Edit{Del: most}, nil},
		{`language l; token a /a+/; rule s = a;`, strings.Repeat("a", most), api.Edit{At: 7, Del: 1, Ins: "a"}, []api.Range{{From: 7, To: 8}}},
	} {
		l := loaded(t, c.defn)
		behind, _ := edit.Apply(c.text, c.e)
		old, now := parse.Parse(l, c.text), parse.Parse(l, behind)
		soon(t, c.defn, func() {
			if got := ranges.Changed(len(c.text), old, c.e, now); !slices.Equal(got, c.want) {
				t.Errorf("19.2: %s: %d bytes, at %d, del %d, ins %d bytes: %v, want %v", c.defn, len(c.text), c.e.At, c.e.Del, len(c.e.Ins), got, c.want)
			}
			if got := ranges.Chain(old, len(c.text)); !slices.Equal(got, []string{"#"}) {
				t.Errorf("19.1: %s: behind the last byte %d entries", c.defn, len(got))
			}
		})
	}
	for _, text := range []string{strings.Repeat(" ", most-1) + "a", strings.Repeat("a", most)} { // as large a pad, and as large a token, as there may be
		r := parse.Parse(loaded(t, `language l; skip / +/; token a /a+/; rule s = a;`), text)
		if got := told(ranges.Chain(r, most-1)); got != "s a #1" {
			t.Errorf("19.1: %d leaves: %s", len(r.Leaves), got)
		}
	}
	r := parse.Parse(loaded(t, deep), wide)
	if got := ranges.Chain(r, most-1); len(got) != 1<<16+2 || fmt.Sprint(got[1<<16-1:]) != "[s a #1]" {
		t.Errorf("19.1: a deep tree: %d entries, %q", len(got), got[max(0, len(got)-3):])
	}
}

// 19.2: many ranges: every other byte is called otherwise behind the edit.
func TestManyRanges(t *testing.T) {
	l := loaded(t, `language l; token a /a/; token n /n/; rule s = _x "1" | _y "2"; rule _x = a @ x n _x | (); rule _y = a @ y n _y | ();`)
	const pairs = 30000
	text := strings.Repeat("an", pairs) + "1"
	e := api.Edit{At: 2 * pairs, Del: 1, Ins: "2"}
	behind, _ := edit.Apply(text, e)
	old, now := parse.Parse(l, text), parse.Parse(l, behind)
	if old.Code != api.OK || now.Code != api.OK {
		t.Fatalf("%d, %d", old.Code, now.Code)
	}
	soon(t, "many ranges", func() {
		var want []api.Range
		for i := range pairs + 1 {
			want = append(want, api.Range{From: 2 * i, To: 2*i + 1})
		}
		if got := ranges.Changed(len(text), old, e, now); !slices.Equal(got, want) {
			t.Errorf("19.2: %d ranges, want %d", len(got), len(want))
		}
	})
}
