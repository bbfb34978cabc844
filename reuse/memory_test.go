package reuse_test

import (
	"slices"
	"strings"
	"testing"
	"unsafe"

	"trellis/api"
	"trellis/reuse"
)

// lent: a text whose bytes the test may write over, as nobody else does.
func lent(s string) (string, func()) {
	b := []byte(s)
	return unsafe.String(&b[0], len(b)), func() {
		for i := range b {
			b[i] = '#'
		}
	}
}

// answers: all that is found of a few leaves, whatever is asked.
func answers(o *reuse.Old, most int) []api.Leaf {
	var out []api.Leaf
	for at := range most {
		for _, before := range []string{start(), "after a", "after b"} {
			for valid := range api.Terms(4) {
				if f, ok := o.Find(at, before, valid); ok {
					f.After = strings.Clone(f.After)
					out = append(out, f)
				}
			}
		}
	}
	return out
}

// P2: what is handed in is neither changed nor kept; what is handed out is new memory.
func TestMemory(t *testing.T) {
	a, spoilA := lent("after a")
	b, spoilB := lent("after b")
	ins, spoilIns := lent("xy")
	room := []api.Leaf{{Term: 1, Len: 2, Look: 1, Valid: 1, After: a}, {Term: 2, Pad: 1, Len: 1, Look: 2, Valid: 2, After: b}, {Term: 3, Valid: 3, After: a}, {Term: 4, Len: 77}, {Term: 5, Look: -1}}
	given := slices.Clone(room)
	leaves := room[:3:5]
	o := reuse.New(4, api.Result{Leaves: leaves}, api.Edit{At: 2, Ins: ins})
	want := answers(o, 9)
	if len(want) != 3 || o.Standing() != 3 {
		t.Fatalf("17.3: %+v, %d stand", want, o.Standing())
	}
	if !slices.Equal(room, given) {
		t.Error("P2: the leaves have been changed")
	}
	for i := range room {
		room[i] = api.Leaf{Term: -7, Pad: 3, Look: 9, Valid: 2, After: "other"}
	}
	spoilA()
	spoilB()
	spoilIns()
	if got := answers(o, 9); !slices.Equal(got, want) || o.Standing() != 3 {
		t.Errorf("P2: %+v, behind writing into the arguments %+v", want, got)
	}
	before, spoilBefore := lent("after a")
	f, _ := o.Find(4, before, 2)
	g, _ := o.Find(4, before, 2)
	if f != g || f.After != "after b" || unsafe.StringData(f.After) == unsafe.StringData(g.After) {
		t.Errorf("P2: %+v and %+v share memory", f, g)
	}
	spoilBefore()
	if got := answers(o, 9); !slices.Equal(got, want) {
		t.Errorf("P3: %+v, want %+v", got, want)
	}
}

// P3: two of them know nothing of each other, and being asked changes nothing.
func TestApart(t *testing.T) {
	r := words()
	one := reuse.New(5, r, api.Edit{At: 5, Ins: "e"})
	two := reuse.New(5, r, api.Edit{Ins: "  "})
	none := reuse.New(4, r, api.Edit{})
	for range 3 {
		if one.Standing() != 2 || two.Standing() != 3 || none.Standing() != 0 {
			t.Fatalf("P3: %d, %d, %d stand", one.Standing(), two.Standing(), none.Standing())
		}
		for at, want := range []string{"one", "", "two", "", "two", "", "one", "two"} {
			for name, o := range map[string]*reuse.Old{"one": one, "two": two, "none": none} {
				if _, ok := o.Find(at, start(), 3); ok != (want == name) {
					t.Fatalf("P3: %s at %d: %v", name, at, ok)
				}
			}
		}
	}
}
