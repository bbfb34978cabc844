package ranges_test

import (
	"fmt"
	"math/rand"
	"slices"
	"strings"
	"testing"

	"trellis/api"
	"trellis/edit"
	"trellis/load"
	"trellis/parse"
	"trellis/ranges"
)

// The chapter's words, told plainly.

// plainEdit: the clamped edit.
func plainEdit(n int, e api.Edit) api.Edit {
	if e.At < 0 {
		e.At = 0
	}
	if e.At > n {
		e.At = n
	}
	if e.Del < 0 {
		e.Del = 0
	}
	if e.Del > n-e.At {
		e.Del = n - e.At
	}
	return e
}

// plainOrigins: by byte of the new text where it stood; -1: it is new.
func plainOrigins(n int, e api.Edit) []int {
	e = plainEdit(n, e)
	var out []int
	for at := range n {
		if at < e.At {
			out = append(out, at)
		}
	}
	for range len(e.Ins) {
		out = append(out, -1)
	}
	for at := range n {
		if at >= e.At+e.Del {
			out = append(out, at)
		}
	}
	return out
}

// plainNames: the names of the nodes of a result that cover a byte: in a tree all of them, in the order of the nodes.
func plainNames(r api.Result, at int) []string {
	var out []string
	for _, x := range r.Nodes {
		if x.From <= at && at < x.To {
			out = append(out, x.Name)
		}
	}
	return out
}

// plainTokens: by byte of a text of n bytes the number of the token that it is in; -1: it is in none.
func plainTokens(n int, r api.Result) []int {
	var out []int
	for _, f := range r.Leaves {
		out = append(out, slices.Repeat([]int{-1}, f.Pad)...)
		out = append(out, slices.Repeat([]int{f.Term}, f.Len)...)
	}
	for len(out) < n {
		out = append(out, -1)
	}
	return out
}

// plainRanges: bytes as ranges.
func plainRanges(in []bool) []api.Range {
	var out []api.Range
	for at := range in {
		if in[at] && (at == 0 || !in[at-1]) {
			out = append(out, api.Range{From: at})
		}
		if in[at] {
			out[len(out)-1].To = at + 1
		}
	}
	return out
}

// plainChanged: the changed bytes, by the words of 19.3.
func plainChanged(n int, old api.Result, e api.Edit, now api.Result) []bool {
	origins := plainOrigins(n, e)
	was, is := plainTokens(n, old), plainTokens(len(origins), now)
	out := make([]bool, len(origins))
	for at, from := range origins {
		out[at] = from < 0 || was[from] != is[at] || !slices.Equal(plainNames(old, from), plainNames(now, at))
	}
	return out
}

// checkChains: the chains of all bytes of a text, and of some that are not there, held against the words of 19.1.
func checkChains(t *testing.T, l api.Lang, text string, r api.Result) {
	t.Helper()
	tokens := plainTokens(len(text), r)
	for at := -2; at < len(text)+3; at++ {
		want, mark := plainNames(r, at), "#"
		if at >= 0 && at < len(text) && tokens[at] >= 0 {
			mark = fmt.Sprint("#", tokens[at])
		}
		if got := ranges.Chain(r, at); !slices.Equal(got, append(want, mark)) {
			t.Fatalf("19.1: %s: %q at %d: %q, want %q", l.Name, text, at, got, append(want, mark))
		}
	}
}

// shaped: are the ranges rising, none empty, apart from one another, and within a text of n bytes?
func shaped(n int, l []api.Range) bool {
	behind := -1
	for _, x := range l {
		if x.From <= behind || x.To <= x.From || x.To > n {
			return false
		}
		behind = x.To
	}
	return true
}

// inside: by byte of a text of n bytes whether it is in one of the ranges.
func inside(n int, l []api.Range) []bool {
	out := make([]bool, n)
	for _, x := range l {
		for at := x.From; at < x.To; at++ {
			out[at] = true
		}
	}
	return out
}

// check: what an edit has changed, held against the words of 19.2, 19.3 and P11, and against Chain and Back.
func check(t *testing.T, l api.Lang, text string, e api.Edit) (string, []api.Range) {
	t.Helper()
	behind, code := edit.Apply(text, e)
	if code != api.OK {
		t.Fatalf("%d bytes behind an edit: %d", len(text)+len(e.Ins), code)
	}
	old, now := parse.Parse(l, text), parse.Parse(l, behind)
	got := ranges.Changed(len(text), old, e, now)
	want := plainRanges(plainChanged(len(text), old, e, now))
	if !shaped(len(behind), got) || !slices.Equal(got, want) {
		t.Fatalf("19.2, 19.3, P11: %s: %q, %+v: %v, want %v", l.Name, text, e, got, want)
	}
	for at, in := range inside(len(behind), got) {
		from, stayed := edit.Back(len(text), e, at)
		if same := stayed && slices.Equal(ranges.Chain(old, from), ranges.Chain(now, at)); same == in {
			t.Fatalf("19.2: %s: %q, %+v: %v, at %d %q, %q", l.Name, text, e, got, at, ranges.Chain(old, from), ranges.Chain(now, at))
		}
	}
	return behind, got
}

func pick[T any](r *rand.Rand, l ...T) T { return l[r.Intn(len(l))] }

func loaded(t *testing.T, text string) api.Lang {
	t.Helper()
	l, fault := load.Load(text)
	if fault != (api.Fault{}) {
		t.Fatalf("%s is no language: %+v", text, fault)
	}
	return l
}

// told: a chain as one text.
func told(l []string) string { return strings.Join(l, " ") }

// enough: has each of these kinds come up often enough to tell something?
func enough(t *testing.T, least int, seen map[string]int, kinds ...string) {
	t.Helper()
	for _, k := range kinds {
		if seen[k] < least {
			t.Errorf("only %d of %q: %v", seen[k], k, seen)
		}
	}
}
