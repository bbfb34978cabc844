package document_test

import (
	"math"
	"math/rand"
	"reflect"
	"slices"
	"strings"
	"testing"
	"time"
	"unsafe"

	"trellis/api"
	"trellis/document"
)

// lent: a text whose bytes the test may write over, as nobody else does.
func lent(s string) (string, func()) {
	b := []byte(s)
	return unsafe.String(unsafe.SliceData(b), len(b)), func() {
		for i := range b {
			b[i] = '#'
		}
	}
}

// overlaps: have the two texts a byte of memory in common?
func overlaps(a, b string) bool {
	x, y := uintptr(unsafe.Pointer(unsafe.StringData(a))), uintptr(unsafe.Pointer(unsafe.StringData(b)))
	return a != "" && b != "" && x < y+uintptr(len(b)) && y < x+uintptr(len(a))
}

// filled: all of the list's room is written into.
func filled[T any](l []T, x T) {
	l = l[:cap(l)]
	for i := range l {
		l[i] = x
	}
}

// wipe: all that a document hands out is written into.
func wipe(d *document.Document) {
	r := d.Result()
	filled(r.Leaves, api.Leaf{Term: 9, Pad: -1, Look: 3, After: "wiped"})
	filled(r.Nodes, api.Node{Name: "wiped", Kids: 7})
	filled(d.Changed(), api.Range{From: -1, To: -2})
}

// checkApart: two answers of one call share no memory.
func checkApart(t *testing.T, d *document.Document) {
	t.Helper()
	a, b := d.Result(), d.Result()
	for i := range a.Leaves {
		if overlaps(a.Leaves[i].After, b.Leaves[i].After) {
			t.Fatalf("P2: %q: %+v is no new memory", d.Text(), a.Leaves[i])
		}
	}
	x, _ := d.Past(d.Version())
	y, _ := d.Past(d.Version() - 1)
	z, _ := d.Past(d.Version() - 1)
	if overlaps(d.Text(), d.Text()) || overlaps(x, d.Text()) || overlaps(y, z) {
		t.Fatalf("P2: %q is no new memory", d.Text())
	}
}

// P2: nothing that is handed in is kept, nothing that is handed out is held.
func TestMemory(t *testing.T) {
	r := rand.New(rand.NewSource(232))
	for _, s := range samples() {
		l := loaded(t, s.defn)
		for _, text := range slices.Repeat(s.texts, 6) {
			mine, spoil := lent(text)
			d, _ := document.Open(l, mine)
			p := pair{d, plainOpen(l, text)}
			if mine != text {
				t.Fatalf("P2: %q has been changed", text)
			}
			spoil()
			wipe(d)
			p.check(t)
			for range 30 {
				e := changed(r, p.plain.text(), s.pieces)
				ins, spoil := lent(e.Ins)
				switch r.Intn(4) {
				case 0:
					p.undo(t)
				case 1:
					p.redo(t)
				default:
					d.Edit(api.Edit{At: e.At, Del: e.Del, Ins: ins})
					p.plain.edit(e)
				}
				if ins != e.Ins {
					t.Fatalf("P2: %+v has been changed", e)
				}
				spoil()
				p.check(t)
				wipe(d)
				p.check(t)
				checkApart(t, d)
			}
		}
	}
}

// P2: the language stays as it was.
func TestLanguageStays(t *testing.T) {
	for _, s := range samples() {
		l := loaded(t, s.defn)
		p := opened(t, l, s.texts[0])
		for i, piece := range s.pieces {
			p.edit(t, api.Edit{At: i, Del: i % 2, Ins: piece})
		}
		p.undo(t)
		p.redo(t)
		if !reflect.DeepEqual(l, loaded(t, s.defn)) {
			t.Errorf("P2: %s has been changed", s.defn)
		}
	}
}

// P3: documents know nothing of each other, and what is only asked changes nothing.
func TestApart(t *testing.T) {
	r := rand.New(rand.NewSource(233))
	var all []pair
	var pieces [][]string
	for _, s := range samples() {
		l := loaded(t, s.defn)
		for _, text := range slices.Repeat(s.texts, 2) {
			all, pieces = append(all, opened(t, l, text)), append(pieces, s.pieces)
		}
	}
	for range 1500 {
		i := r.Intn(len(all))
		told(t, r, all[i], pieces[i], 1, map[string]int{})
		all[r.Intn(len(all))].check(t)
	}
}

// soon: fails if a call takes long.
func soon(t *testing.T, name string, call func()) {
	t.Helper()
	done := make(chan bool)
	go func() { defer close(done); call() }()
	select {
	case <-done:
	case <-time.After(time.Minute):
		t.Fatalf("P1: %s: no end", name)
	}
}

// P1: values that are no languages: the calls end, and the text is told all the same.
func TestNoLanguages(t *testing.T) {
	reduce, shift := api.Action{Kind: api.ActionReduce, N: 1}, api.Action{Kind: api.ActionShift}
	g := api.Gram{Terms: []api.TermDef{{}, {Name: "a"}}, Syms: []api.Sym{{Name: "s", Kind: api.SymShown}}, Prods: []api.Prod{{Lhs: -1, Rhs: []api.Ref{{Sym: 2}}}, {Lhs: 0}}}
	rules := []api.Rule{{Term: 1, Pat: api.PatLit, Lit: "a", In: []int{-1}}, {Term: 1, Pat: api.PatEmpty, In: []int{-1}}}
	for _, l := range []api.Lang{
		{}, {Gram: g}, {Rules: rules}, {Gram: g, Rules: rules},
		{Gram: g, Rules: rules, Table: api.Table{Actions: [][]api.Action{{reduce, reduce}}, Gotos: [][]int{{0}}}},
		{Gram: g, Rules: rules, Table: api.Table{Actions: [][]api.Action{{shift, shift}}, Gotos: [][]int{{0}}}},
		{Rules: rules, Table: api.Table{Actions: [][]api.Action{{shift, {Kind: api.ActionShift, N: 7}}}}},
		{Gram: g, Table: api.Table{Actions: [][]api.Action{{{Kind: 9, N: -1}, {Kind: api.ActionReduce, N: math.MinInt}}}, Gotos: [][]int{{math.MaxInt}}}},
	} {
		soon(t, "no language", func() {
			for _, text := range []string{"", "aa", "ab\n"} {
				d, code := document.Open(l, text)
				if code != api.OK {
					t.Fatalf("23.1: %d", code)
				}
				for i, want := range []api.Errno{d.Undo(), d.Redo()} {
					if want != []api.Errno{api.ErrNoUndo, api.ErrNoRedo}[i] {
						t.Errorf("23.3, 23.4: %d", want)
					}
				}
				if _, code := d.Edit(api.Edit{At: 1, Ins: "a"}); code != api.OK || len(d.Text()) != len(text)+1 {
					t.Errorf("23.2: %q, %d", d.Text(), code)
				}
				if code := d.Undo(); code != api.OK || d.Text() != text {
					t.Errorf("23.3: %q, %d", d.Text(), code)
				}
				if code := d.Redo(); code != api.OK || len(d.Text()) != len(text)+1 || d.Version() != 3 {
					t.Errorf("23.4: %q, %d", d.Text(), code)
				}
				wipe(d)
			}
		})
	}
}

// P1, P8: the longest texts, with as many leaves as there may be, and trees as deep.
func TestHuge(t *testing.T) {
	const half = 32767
	for _, c := range []struct {
		defn, text string
		e          api.Edit
		stats      api.Stats
	}{
		{`language l; token a /a/; rule s = "(" s ")" | a;`, strings.Repeat("(", half) + "a" + strings.Repeat(")", half), api.Edit{At: half, Ins: "("}, api.Stats{Scanned: 2, Kept: 2*half + 1}},
		{`language l; skip / +/; token a /a/; rule s = a s | ();`, strings.Repeat("               a", 1<<16), api.Edit{At: 1 << 19, Del: 16}, api.Stats{Scanned: 0, Kept: 1 << 16}},
		{`language l; skip / +/; token a /a/; rule s = a*;`, strings.Repeat("               a", 1<<16), api.Edit{Del: 1 << 20, Ins: "a"}, api.Stats{Scanned: 1, Kept: 1}},
		{`language l; token a /a/; rule s = a*;`, "", api.Edit{Ins: strings.Repeat("a", most)}, api.Stats{Scanned: 1<<16 + 1}},
		{layout, "if a:\n", api.Edit{At: 6, Ins: " " + strings.Repeat("b\n ", 32000) + "c\n"}, api.Stats{Scanned: 64006, Kept: 3}},
	} {
		soon(t, c.defn, func() {
			p := opened(t, loaded(t, c.defn), c.text)
			if stats, code := p.Edit(c.e); stats != c.stats || code != api.OK {
				t.Errorf("23.2: %s: %+v, %d, want %+v", c.defn, stats, code, c.stats)
			}
			p.plain.edit(c.e)
			p.check(t)
			p.undo(t)
			p.redo(t)
		})
	}
}

// P1: as much history as there may be of the longest texts.
func TestLongHistory(t *testing.T) {
	const words, letters = 64, most / 64
	l := loaded(t, "language l; skip / +/; token w /[ab]+/; rule s = w*;")
	texts := []string{strings.Repeat(strings.Repeat("a", letters-1)+" ", words)}
	soon(t, "a long history", func() {
		d, _ := document.Open(l, texts[0])
		for i := range 70 {
			stats, code := d.Edit(api.Edit{At: i * 7 % words * letters, Del: 1, Ins: "b"})
			if code != api.OK || stats != (api.Stats{Scanned: 1, Kept: words}) {
				t.Fatalf("23.2: edit %d: %+v, %d", i, stats, code)
			}
			texts = append(texts, d.Text())
		}
		for i := range 64 {
			if code := d.Undo(); code != api.OK || d.Text() != texts[69-i] {
				t.Fatalf("23.3: undo %d: %d", i, code)
			}
			texts = append(texts, d.Text())
		}
		if d.Undo() != api.ErrNoUndo || d.Text() != texts[6] {
			t.Error("23.2: more than 64 edits can be taken back")
		}
		for v := range texts {
			text, code := d.Past(v)
			if there := v >= len(texts)-65; there && (code != api.OK || text != texts[v]) || !there && (code != api.ErrVersion || text != "") {
				t.Errorf("23.6: Past(%d): %d bytes, %d", v, len(text), code)
			}
		}
	})
}
