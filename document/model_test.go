package document_test

import (
	"math"
	"math/rand"
	"slices"
	"testing"

	"trellis/api"
	"trellis/document"
	"trellis/incr"
	"trellis/load"
	"trellis/parse"
	"trellis/ranges"
)

// The chapter's words, told plainly: a document that keeps all texts that it has ever had, and parses from scratch.

// plainDoc: what a document is said to be.
type plainDoc struct {
	l       api.Lang
	texts   []string   // by version
	result  api.Result // of the last one
	undo    []plainEdit
	redo    []plainEdit
	changed []api.Range
}

func plainOpen(l api.Lang, text string) *plainDoc {
	return &plainDoc{l: l, texts: []string{text}, result: parse.Parse(l, text)}
}

// plainEdit: an edit, and the texts ahead of it and behind.
type plainEdit struct {
	e             api.Edit
	ahead, behind string
}

// clamped: the clamped edit.
func clamped(n int, e api.Edit) api.Edit {
	if e.At < 0 {
		e.At = 0
	}
	if e.At > n {
		e.At = n
	}
	if e.Del < 0 {
		e.Del = 0
	}
	if e.Del > n-e.At {
		e.Del = n - e.At
	}
	return e
}

// plainBehind: the text behind an edit; false: it is refused.
func plainBehind(text string, e api.Edit) (string, bool) {
	e = clamped(len(text), e)
	if len(text)-e.Del+len(e.Ins) > 1<<20 {
		return text, false
	}
	return text[:e.At] + e.Ins + text[e.At+e.Del:], true
}

func (d *plainDoc) version() int { return len(d.texts) - 1 }
func (d *plainDoc) text() string { return d.texts[d.version()] }

// step: the text becomes another one, by an edit.
func (d *plainDoc) step(e api.Edit, behind string) {
	now := parse.Parse(d.l, behind)
	d.changed = ranges.Changed(len(d.text()), d.result, e, now)
	d.texts, d.result = append(d.texts, behind), now
}

func (d *plainDoc) edit(e api.Edit) (api.Stats, api.Errno) {
	ahead := d.text()
	behind, ok := plainBehind(ahead, e)
	if !ok {
		return api.Stats{}, api.ErrBig
	}
	_, _, stats, _ := incr.Reparse(d.l, ahead, d.result, e)
	d.undo = append(d.undo, plainEdit{e, ahead, behind})
	if len(d.undo) > 64 {
		d.undo = d.undo[1:]
	}
	d.redo = nil
	d.step(e, behind)
	return stats, api.OK
}

func (d *plainDoc) undone() api.Errno {
	n := len(d.undo)
	if n == 0 {
		return api.ErrNoUndo
	}
	x := d.undo[n-1]
	d.undo, d.redo = d.undo[:n-1], append(slices.Clip(d.redo), x)
	c := clamped(len(x.ahead), x.e)
	d.step(api.Edit{At: c.At, Del: len(c.Ins), Ins: x.ahead[c.At : c.At+c.Del]}, x.ahead)
	return api.OK
}

func (d *plainDoc) redone() api.Errno {
	n := len(d.redo)
	if n == 0 {
		return api.ErrNoRedo
	}
	x := d.redo[n-1]
	d.redo, d.undo = d.redo[:n-1], append(slices.Clip(d.undo), x)
	d.step(x.e, x.behind)
	return api.OK
}

func (d *plainDoc) past(version int) (string, api.Errno) {
	if version < 0 || version > d.version() || version < d.version()-64 {
		return "", api.ErrVersion
	}
	return d.texts[version], api.OK
}

// same: with nil and empty lists alike.
func same(a, b api.Result) bool {
	return a.Code == b.Code && a.At == b.At && a.Want == b.Want && a.Roots == b.Roots && slices.Equal(a.Leaves, b.Leaves) && slices.Equal(a.Nodes, b.Nodes)
}

// pair: a document and what it is said to be, told the same.
type pair struct {
	*document.Document
	plain *plainDoc
}

func opened(t *testing.T, l api.Lang, text string) pair {
	t.Helper()
	d, code := document.Open(l, text)
	if code != api.OK || d == nil {
		t.Fatalf("23.1: %s: Open of %d bytes: %d", l.Name, len(text), code)
	}
	p := pair{d, plainOpen(l, text)}
	p.check(t)
	return p
}

// check: what is asked of a document, held against the words of 23.5 and 23.6.
func (p pair) check(t *testing.T) {
	t.Helper()
	name, n := p.plain.l.Name, p.plain.version()
	if p.Version() != n || p.Text() != p.plain.text() {
		t.Fatalf("23.5: %s: version %d, %q, want %d, %q", name, p.Version(), p.Text(), n, p.plain.text())
	}
	if r := p.Result(); !same(r, p.plain.result) {
		t.Fatalf("23.5, 23.7: %s: %q: %+v, want %+v", name, p.Text(), r, p.plain.result)
	}
	if l := p.Changed(); !slices.Equal(l, p.plain.changed) {
		t.Fatalf("23.5: %s: %q behind %q: %v, want %v", name, p.Text(), p.plain.texts[max(0, n-1)], l, p.plain.changed)
	}
	for _, v := range []int{math.MinInt, math.MinInt + n, -n, -2, -1, 0, 1, n - 66, n - 65, n - 64, n - 63, n - 2, n - 1, n, n + 1, n + 2, n + 64, math.MaxInt - n, math.MaxInt} {
		p.checkPast(t, v)
	}
}

func (p pair) checkPast(t *testing.T, version int) {
	t.Helper()
	got, code := p.Past(version)
	if want, wanted := p.plain.past(version); got != want || code != wanted {
		t.Fatalf("23.6: %s: at version %d: Past(%d) = %q, %d, want %q, %d", p.plain.l.Name, p.plain.version(), version, got, code, want, wanted)
	}
}

// The calls, held against the words of 23.2 to 23.4; what is asked behind a step too, and that nothing has changed behind a refusal.

func (p pair) edit(t *testing.T, e api.Edit) api.Errno {
	t.Helper()
	ahead := p.plain.text()
	stats, code := p.Edit(e)
	if want, wanted := p.plain.edit(e); stats != want || code != wanted {
		t.Fatalf("23.2: %s: %q, at %d, del %d, ins %d bytes: %+v, %d, want %+v, %d", p.plain.l.Name, ahead, e.At, e.Del, len(e.Ins), stats, code, want, wanted)
	}
	p.check(t)
	return code
}

func (p pair) undo(t *testing.T) api.Errno {
	t.Helper()
	code, want := p.Undo(), p.plain.undone()
	if code != want {
		t.Fatalf("23.3: %s: %d, want %d", p.plain.l.Name, code, want)
	}
	p.check(t)
	return code
}

func (p pair) redo(t *testing.T) api.Errno {
	t.Helper()
	code, want := p.Redo(), p.plain.redone()
	if code != want {
		t.Fatalf("23.4: %s: %d, want %d", p.plain.l.Name, code, want)
	}
	p.check(t)
	return code
}

func pick[T any](r *rand.Rand, l ...T) T { return l[r.Intn(len(l))] }

func loaded(t *testing.T, text string) api.Lang {
	t.Helper()
	l, fault := load.Load(text)
	if fault != (api.Fault{}) {
		t.Fatalf("%s is no language: %+v", text, fault)
	}
	return l
}

// enough: has each of these kinds come up often enough to tell something?
func enough(t *testing.T, least int, seen map[string]int, kinds ...string) {
	t.Helper()
	for _, k := range kinds {
		if seen[k] < least {
			t.Errorf("only %d of %q: %v", seen[k], k, seen)
		}
	}
}
