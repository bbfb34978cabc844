package incr_test

import (
	"math/rand"
	"slices"
	"testing"

	"trellis/api"
	"trellis/edit"
	"trellis/incr"
	"trellis/load"
	"trellis/parse"
	"trellis/reuse"
	"trellis/state"
)

// The chapter's words, told plainly.

// plainEdit: the clamped edit.
func plainEdit(n int, e api.Edit) api.Edit {
	if e.At < 0 {
		e.At = 0
	}
	if e.At > n {
		e.At = n
	}
	if e.Del < 0 {
		e.Del = 0
	}
	if e.Del > n-e.At {
		e.Del = n - e.At
	}
	return e
}

// plainText: the text behind an edit; false: it is refused.
func plainText(text string, e api.Edit) (string, bool) {
	e = plainEdit(len(text), e)
	behind := text[:e.At] + e.Ins + text[e.At+e.Del:]
	return behind, len(text) <= 1<<20 && len(behind) <= 1<<20
}

// begun: a step as it begins.
type begun struct {
	at     int
	before string
	valid  api.Terms
}

// start: the bytes of the state at the beginning.
func start() string {
	s, _ := state.Encode(state.Start())
	return s
}

// begins: how the leaves of a result began; last: and the step that ended the run, if it is no leaf.
func begins(r api.Result) (leaves []begun, last []begun) {
	at, before := 0, start()
	for _, f := range r.Leaves {
		leaves = append(leaves, begun{at, before, f.Valid})
		at += f.Pad + f.Len
		before = f.After
	}
	if r.Code != api.OK {
		last = []begun{{at, before, r.Want}}
	}
	return leaves, last
}

// plainStats: how many steps of the new run no old leaf answers, and how many of its leaves one does.
func plainStats(n int, old api.Result, e api.Edit, now api.Result) api.Stats {
	e = plainEdit(n, e)
	answered := map[begun]int{}
	leaves, _ := begins(old)
	for i, x := range leaves {
		o := x.at
		if o+old.Leaves[i].Look <= e.At {
			answered[x]++
		}
		if o >= e.At+e.Del {
			x.at = o - e.Del + len(e.Ins)
			answered[x]++
		}
	}
	var out api.Stats
	leaves, last := begins(now)
	for _, x := range leaves {
		if answered[x] > 0 {
			out.Kept++
		} else {
			out.Scanned++
		}
	}
	for _, x := range last {
		if answered[x] == 0 {
			out.Scanned++
		}
	}
	return out
}

// same: with nil and empty lists alike.
func same(a, b api.Result) bool {
	return a.Code == b.Code && a.At == b.At && a.Want == b.Want && a.Roots == b.Roots && slices.Equal(a.Leaves, b.Leaves) && slices.Equal(a.Nodes, b.Nodes)
}

// check: a text again behind an edit, held against the words of 18.1 to 18.3; old is the result of the text.
func check(t *testing.T, l api.Lang, text string, old api.Result, e api.Edit) (string, api.Result, api.Stats) {
	t.Helper()
	behind, ok := plainText(text, e)
	got, r, stats, code := incr.Reparse(l, text, old, e)
	if !ok {
		if code != api.ErrBig || got != "" || !same(r, api.Result{}) || stats != (api.Stats{}) {
			t.Fatalf("18.1: %s: %d bytes, at %d, del %d, ins %d bytes: %d bytes, %d, %+v", l.Name, len(text), e.At, e.Del, len(e.Ins), len(got), code, stats)
		}
		return text, old, stats
	}
	if code != api.OK || got != behind {
		t.Fatalf("18.1: %s: %q, %+v: %q, %d, want %q", l.Name, text, e, got, code, behind)
	}
	if want := parse.Parse(l, behind); !same(r, want) {
		t.Fatalf("18.2, P8: %s: %q, %+v: %+v, want %+v", l.Name, text, e, r, want)
	}
	if want := plainStats(len(text), old, e, r); stats != want {
		t.Fatalf("18.3, P9: %s: %q, %+v: %+v, want %+v", l.Name, text, e, stats, want)
	}
	if with, s := parse.With(l, behind, reuse.New(len(text), old, e)); !same(r, with) || stats != s {
		t.Fatalf("18.1: %s: %q, %+v: %+v, %+v, want %+v, %+v", l.Name, text, e, r, stats, with, s)
	}
	return got, r, stats
}

// checkBack: behind an edit and its inverse all is as it was; answered is what the edit alone comes to.
func checkBack(t *testing.T, l api.Lang, text string, old api.Result, e api.Edit) (string, api.Result, api.Stats) {
	t.Helper()
	behind, now, stats := check(t, l, text, old, e)
	if _, ok := plainText(text, e); !ok {
		return behind, now, stats
	}
	if back, r, _ := check(t, l, behind, now, edit.Invert(text, e)); back != text || !same(r, old) {
		t.Fatalf("18.5, P12: %s: %q, %+v, and back: %q, %+v, want %+v", l.Name, text, e, back, r, old)
	}
	return behind, now, stats
}

// checkCover: one edit for two; what it answers is what the two alone come to.
func checkCover(t *testing.T, l api.Lang, text string, old api.Result, a, b api.Edit) (string, api.Result) {
	t.Helper()
	middle, then, _ := check(t, l, text, old, a)
	last, r, _ := check(t, l, middle, then, b)
	_, well := plainText(text, a)
	if _, ok := plainText(middle, b); !ok || !well {
		return last, r
	}
	if one, s, _ := check(t, l, text, old, edit.Cover(text, a, b)); one != last || !same(s, r) {
		t.Fatalf("18.6: %s: %q, %+v, %+v: %q, %+v, want %q, %+v", l.Name, text, a, b, one, s, last, r)
	}
	return last, r
}

func pick[T any](r *rand.Rand, l ...T) T { return l[r.Intn(len(l))] }

func loaded(t *testing.T, text string) api.Lang {
	t.Helper()
	l, fault := load.Load(text)
	if fault != (api.Fault{}) {
		t.Fatalf("%s is no language: %+v", text, fault)
	}
	return l
}

// enough: has each of these kinds come up often enough to tell something?
func enough(t *testing.T, least int, seen map[string]int, kinds ...string) {
	t.Helper()
	for _, k := range kinds {
		if seen[k] < least {
			t.Errorf("only %d of %q: %v", seen[k], k, seen)
		}
	}
}
