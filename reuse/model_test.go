package reuse_test

import (
	"math"
	"math/rand"
	"slices"
	"testing"

	"trellis/api"
	"trellis/reuse"
	"trellis/state"
)

// The chapter's words, told plainly.

// placed: a leaf, the state ahead of it, and the places at which it stands.
type placed struct {
	leaf   api.Leaf
	before string
	at     []int
}

// start: the bytes of the state at the beginning.
func start() string {
	s, _ := state.Encode(state.Start())
	return s
}

// plainRight: is the result right for n?
func plainRight(n int, r api.Result) bool {
	if n < 0 || n > 1<<20 {
		return false
	}
	sum := 0.0 // of any numbers, without wrapping round
	for _, f := range r.Leaves {
		for _, x := range []int{f.Pad, f.Len, f.Look} {
			if x < 0 || x > 1<<20+1 {
				return false
			}
		}
		sum += float64(f.Pad) + float64(f.Len)
	}
	return sum <= float64(n)
}

// plainEdit: the clamped edit, by the document's words.
func plainEdit(n int, e api.Edit) api.Edit {
	if e.At < 0 {
		e.At = 0
	}
	if e.At > n {
		e.At = n
	}
	if e.Del < 0 {
		e.Del = 0
	}
	if e.Del > n-e.At {
		e.Del = n - e.At
	}
	return e
}

// plain: the leaves behind an edit.
func plain(n int, r api.Result, e api.Edit) []placed {
	if !plainRight(n, r) {
		return nil
	}
	e = plainEdit(n, e)
	var out []placed
	o, before := 0, start()
	for _, f := range r.Leaves {
		x := placed{leaf: f, before: before}
		if o+f.Look <= e.At {
			x.at = append(x.at, o)
		}
		if o >= e.At+e.Del {
			x.at = append(x.at, o-e.Del+len(e.Ins))
		}
		out = append(out, x)
		o += f.Pad
		o += f.Len
		before = f.After
	}
	return out
}

func plainStanding(l []placed) int {
	n := 0
	for _, x := range l {
		if len(x.at) > 0 {
			n++
		}
	}
	return n
}

func plainFind(l []placed, at int, before string, valid api.Terms) (api.Leaf, bool) {
	for _, x := range l {
		if slices.Contains(x.at, at) && x.before == before && x.leaf.Valid == valid {
			return x.leaf, true
		}
	}
	return api.Leaf{}, false
}

// questions: the places, states and valid sets that are asked of leaves behind an edit: all that may be, and others.
func questions(n int, r api.Result, e api.Edit) (at []int, before []string, valid []api.Terms) {
	at = []int{math.MinInt, -1 << 32, math.MaxInt, 1 << 32}
	for p := -3; p <= max(n, 0)+len(e.Ins)+3; p++ {
		at = append(at, p)
	}
	before, valid = []string{start(), start() + "x", ""}, []api.Terms{0, 1 << 63}
	for _, f := range r.Leaves {
		before = append(before, f.After)
		valid = append(valid, f.Valid)
	}
	slices.Sort(before)
	slices.Sort(valid)
	return at, slices.Compact(before), slices.Compact(valid)
}

// check holds all that can be asked of leaves behind an edit against the chapter's words.
func check(t *testing.T, n int, r api.Result, e api.Edit) *reuse.Old {
	t.Helper()
	o, want := reuse.New(n, r, e), plain(n, r, e)
	if got := o.Standing(); got != plainStanding(want) {
		t.Fatalf("17.1, 17.2, 17.5: New(%d, %+v, %+v): %d stand, want %d", n, r.Leaves, e, got, plainStanding(want))
	}
	ats, befores, valids := questions(n, r, e)
	for _, at := range ats {
		for _, before := range befores {
			for _, valid := range valids {
				f, ok := o.Find(at, before, valid)
				g, has := plainFind(want, at, before, valid)
				if f != g || ok != has {
					t.Fatalf("17.1, 17.3, 17.5: New(%d, %+v, %+v).Find(%d, %q, %x) = %+v, %v, want %+v, %v", n, r.Leaves, e, at, before, valid, f, ok, g, has)
				}
			}
		}
	}
	return o
}

func pick[T any](r *rand.Rand, l ...T) T { return l[r.Intn(len(l))] }

// enough: has each of these kinds come up often enough to tell something?
func enough(t *testing.T, least int, seen map[string]int, kinds ...string) {
	t.Helper()
	for _, k := range kinds {
		if seen[k] < least {
			t.Errorf("only %d of %q: %v", seen[k], k, seen)
		}
	}
}
