package document_test

import (
	"math"
	"runtime"
	"slices"
	"strconv"
	"strings"
	"testing"

	"trellis/api"
	"trellis/document"
	"trellis/parse"
)

// sums: sums of numbers.
const sums = `language sums; skip / +/; token n /[0-9]+/; rule s = n ("+" n)*;`

// most: bytes of the longest texts.
const most = 1 << 20

// row: a call, and what it answers; the text behind it.
type row struct {
	call string // edit, undo, redo
	e    api.Edit
	code api.Errno
	text string
}

func checkRows(t *testing.T, p pair, rows []row) {
	t.Helper()
	for i, c := range rows {
		var code api.Errno
		switch c.call {
		case "edit":
			code = p.edit(t, c.e)
		case "undo":
			code = p.undo(t)
		case "redo":
			code = p.redo(t)
		}
		if code != c.code || p.Text() != c.text {
			t.Fatalf("call %d, %s: %d, %q, want %d, %q", i, c.call, code, p.Text(), c.code, c.text)
		}
	}
}

// The chapter's table.
func TestExamples(t *testing.T) {
	p := opened(t, loaded(t, sums), "1+2")
	if p.Version() != 0 || len(p.Changed()) != 0 {
		t.Errorf("23.5: %d, %v", p.Version(), p.Changed())
	}
	for _, v := range []int{1, -1} {
		if text, code := p.Past(v); text != "" || code != api.ErrVersion {
			t.Errorf("23.6: Past(%d) = %q, %d", v, text, code)
		}
	}
	checkRows(t, p, []row{
		{"undo", api.Edit{}, api.ErrNoUndo, "1+2"},
		{"redo", api.Edit{}, api.ErrNoRedo, "1+2"},
		{"edit", api.Edit{At: 3, Ins: "+3"}, api.OK, "1+2+3"},
		{"edit", api.Edit{At: 99, Del: 5}, api.OK, "1+2+3"},
		{"undo", api.Edit{}, api.OK, "1+2+3"},
		{"undo", api.Edit{}, api.OK, "1+2"},
		{"undo", api.Edit{}, api.ErrNoUndo, "1+2"},
		{"redo", api.Edit{}, api.OK, "1+2+3"},
	})
	for v, want := range []string{"1+2", "1+2+3", "1+2+3", "1+2+3", "1+2", "1+2+3"} {
		if text, code := p.Past(v); text != want || code != api.OK {
			t.Errorf("23.6: Past(%d) = %q, %d", v, text, code)
		}
	}
	checkRows(t, p, []row{
		{"edit", api.Edit{At: 0, Del: 1, Ins: "9"}, api.OK, "9+2+3"},
		{"redo", api.Edit{}, api.ErrNoRedo, "9+2+3"},
	})
	if p.Version() != 6 {
		t.Errorf("23.5: %d", p.Version())
	}
}

// 23.1: the texts that can be opened.
func TestOpen(t *testing.T) {
	l := loaded(t, sums)
	for _, text := range []string{"", "1", "?", "1+", "\x00\xff\n", strings.Repeat(" ", most), strings.Repeat("1", most)} {
		opened(t, l, text)
	}
	for _, text := range []string{strings.Repeat(" ", most+1), strings.Repeat("1+", most) + "1"} {
		if d, code := document.Open(l, text); d != nil || code != api.ErrBig {
			t.Errorf("23.1: %d bytes: %v, %d", len(text), d, code)
		}
	}
}

// 23.2 to 23.4: what is refused changes nothing, not what can be done again either; an edit that changes no byte is an edit.
func TestRefused(t *testing.T) {
	l := loaded(t, sums)
	big := strings.Repeat("1", most)
	checkRows(t, opened(t, l, "1"), []row{
		{"edit", api.Edit{Ins: big}, api.ErrBig, "1"},
		{"undo", api.Edit{}, api.ErrNoUndo, "1"},
		{"edit", api.Edit{At: 1, Ins: "2"}, api.OK, "12"},
		{"edit", api.Edit{At: math.MaxInt, Del: math.MaxInt, Ins: big[1:]}, api.ErrBig, "12"},
		{"undo", api.Edit{}, api.OK, "1"},
		{"edit", api.Edit{At: math.MinInt, Del: math.MinInt, Ins: big}, api.ErrBig, "1"},
		{"redo", api.Edit{}, api.OK, "12"}, // the refused one has not taken it away
		{"redo", api.Edit{}, api.ErrNoRedo, "12"},
		{"undo", api.Edit{}, api.OK, "1"},
		{"edit", api.Edit{At: math.MaxInt, Del: math.MaxInt}, api.OK, "1"}, // nothing is done: nothing can be done again any more
		{"redo", api.Edit{}, api.ErrNoRedo, "1"},
		{"undo", api.Edit{}, api.OK, "1"},
		{"undo", api.Edit{}, api.ErrNoUndo, "1"},
		{"redo", api.Edit{}, api.OK, "1"},
	})
	checkRows(t, opened(t, l, big), []row{
		{"edit", api.Edit{At: 5, Ins: "2"}, api.ErrBig, big},
		{"edit", api.Edit{At: math.MaxInt, Del: math.MaxInt, Ins: "2"}, api.ErrBig, big},
		{"edit", api.Edit{At: 5, Del: 1, Ins: "2"}, api.OK, big[:5] + "2" + big[6:]},
		{"edit", api.Edit{Del: math.MaxInt, Ins: "3"}, api.OK, "3"},
		{"edit", api.Edit{At: 1, Ins: big[1:]}, api.OK, "3" + big[1:]},
		{"undo", api.Edit{}, api.OK, "3"},
		{"undo", api.Edit{}, api.OK, big[:5] + "2" + big[6:]},
		{"undo", api.Edit{}, api.OK, big},
		{"redo", api.Edit{}, api.OK, big[:5] + "2" + big[6:]},
		{"redo", api.Edit{}, api.OK, "3"},
		{"redo", api.Edit{}, api.OK, "3" + big[1:]},
	})
}

// 23.5: what each kind of step has changed: of an Undo the edit's inverse counts, of a Redo the edit.
func TestChanged(t *testing.T) {
	p := opened(t, loaded(t, sums), "1+2")
	changed := func(want ...api.Range) {
		t.Helper()
		if l := p.Changed(); !slices.Equal(l, want) {
			t.Errorf("23.5: %q at version %d: %v, want %v", p.Text(), p.Version(), l, want)
		}
	}
	changed()
	p.undo(t)
	changed()
	p.edit(t, api.Edit{At: 2, Del: 1, Ins: "345"})
	changed(api.Range{From: 2, To: 5})
	p.undo(t)
	changed(api.Range{From: 2, To: 3})
	p.undo(t)
	changed(api.Range{From: 2, To: 3}) // of the last step
	p.edit(t, api.Edit{Ins: strings.Repeat("1", most)})
	changed(api.Range{From: 2, To: 3})
	p.redo(t)
	changed(api.Range{From: 2, To: 5})
	p.edit(t, api.Edit{})
	changed()
	p.edit(t, api.Edit{Del: 5, Ins: "1+345"}) // by places alone
	changed(api.Range{From: 0, To: 5})
	p.undo(t)
	changed(api.Range{From: 0, To: 5})
	p.edit(t, api.Edit{At: 5, Ins: "+"})
	changed(api.Range{From: 0, To: 6}) // refused: below other names
	p.edit(t, api.Edit{At: math.MaxInt, Del: 3, Ins: " "})
	changed(api.Range{From: 6, To: 7})
}

// 23.2, 23.6: the last 64 edits, the last 64 texts.
func TestHistory(t *testing.T) {
	for _, n := range []int{62, 63, 64, 65, 66, 130, 200} {
		p := opened(t, loaded(t, sums), "0")
		for i := range n {
			p.edit(t, api.Edit{At: i % 3, Del: i % 2, Ins: strconv.Itoa(i) + "+"})
		}
		for v := -1; v < n+3; v++ {
			p.checkPast(t, v)
		}
		taken := 0
		for p.undo(t) == api.OK {
			taken++
		}
		if taken != min(n, 64) || p.Version() != n+taken {
			t.Errorf("23.2: of %d edits %d were taken back; version %d", n, taken, p.Version())
		}
		for p.redo(t) == api.OK {
			taken--
		}
		if taken != 0 {
			t.Errorf("23.4: of %d edits %d were not done again", n, taken)
		}
		p.undo(t)
		for i := range 64 { // and again, with others in the place of those that could be done again
			p.edit(t, api.Edit{Ins: strconv.Itoa(i)})
		}
		for range 64 {
			p.undo(t)
		}
		if code := p.undo(t); n >= 64 && code != api.ErrNoUndo {
			t.Errorf("23.2: more than 64 edits can be taken back: %d", code)
		}
	}
}

// held: bytes of memory that are in use.
func held() uint64 {
	runtime.GC()
	var m runtime.MemStats
	runtime.ReadMemStats(&m)
	return m.HeapAlloc
}

// No more is kept than the limits ask for: 64 texts, 64 edits.
func TestKept(t *testing.T) {
	const size = 1 << 16
	d, _ := document.Open(loaded(t, "language l; token a /a+/; token b /b+/; rule s = a | b;"), strings.Repeat("a", size))
	before := held()
	for i := range 1000 {
		d.Edit(api.Edit{Del: size, Ins: strings.Repeat(string(rune('a'+i%2)), size)})
	}
	for range 64 {
		d.Undo()
	}
	if more := held() - before; more > 150*size { // of 1000 texts and edits it would be much more
		t.Errorf("%d bytes are kept", more)
	}
	d.Edit(api.Edit{Del: size})
	for range 64 {
		d.Edit(api.Edit{})
	}
	if now := held(); now > before+9*size {
		t.Errorf("behind short texts %d bytes are kept", now-before)
	}
	runtime.KeepAlive(d)
}

// P8: documents of a language whose layout matters.
func TestLayout(t *testing.T) {
	p := opened(t, loaded(t, layout), "if a:\n  b\n")
	for _, e := range []api.Edit{{At: 10, Ins: "  c\n"}, {At: 10, Del: 2}, {At: 6, Ins: "  "}, {At: 0, Del: 8}, {Ins: "if x:\n"}, {At: 6, Ins: " "}} {
		p.edit(t, e)
	}
	if r := parse.Parse(p.plain.l, p.Text()); r.Code != api.OK {
		t.Errorf("%q: %d at %d", p.Text(), r.Code, r.At)
	}
	for p.undo(t) == api.OK {
	}
	for p.redo(t) == api.OK {
	}
}
