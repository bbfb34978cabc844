package paint_test

import (
	"math"
	"math/rand"
	"reflect"
	"slices"
	"strings"
	"testing"
	"time"
	"unsafe"

	"trellis/api"
	"trellis/paint"
	"trellis/tree"
)

// lent: a text whose bytes the test may write over, as nobody else does.
func lent(s string, spoilt *[]func()) string {
	b := []byte(s)
	*spoilt = append(*spoilt, func() { filled(b, '?') })
	return unsafe.String(unsafe.SliceData(b), len(b))
}

// filled: all of the list's room is written into.
func filled[T any](l []T, x T) {
	l = l[:cap(l)]
	for i := range l {
		l[i] = x
	}
}

// overlaps: have the two texts a byte of memory in common?
func overlaps(a, b string) bool {
	x, y := uintptr(unsafe.Pointer(unsafe.StringData(a))), uintptr(unsafe.Pointer(unsafe.StringData(b)))
	return a != "" && b != "" && x < y+uintptr(len(b)) && y < x+uintptr(len(a))
}

// given: paint lines and nodes with texts of their own, and spare room in which something stands; and how to write over all of it.
func given(paints []api.PaintDef, nodes []api.Node) (api.Lang, []api.Node, func()) {
	var spoilt []func()
	p := append(slices.Clone(paints), api.PaintDef{Name: "a", Class: "spare"}, api.PaintDef{Name: "c", Class: "spare"})
	t := append(slices.Clone(nodes), api.Node{Name: "a", To: 99}, api.Node{Name: "b", To: 9, Kids: 2})
	for i := range p {
		p[i] = api.PaintDef{Name: lent(p[i].Name, &spoilt), Class: lent(p[i].Class, &spoilt)}
	}
	for i := range t {
		t[i].Name = lent(t[i].Name, &spoilt)
	}
	return lang(p[:len(paints)]), t[:len(nodes)], func() {
		filled(p, api.PaintDef{Name: "a", Class: "wiped"})
		filled(t, api.Node{Name: "wiped", Kids: 7})
		for _, spoil := range spoilt {
			spoil()
		}
	}
}

// room: copies of what stands in the lists, their spare room too.
func room(l api.Lang, t []api.Node) ([]api.PaintDef, []api.Node) {
	paints, nodes := slices.Clone(l.Paints[:cap(l.Paints)]), slices.Clone(t[:cap(t)])
	for i := range paints {
		paints[i] = api.PaintDef{Name: strings.Clone(paints[i].Name), Class: strings.Clone(paints[i].Class)}
	}
	for i := range nodes {
		nodes[i].Name = strings.Clone(nodes[i].Name)
	}
	return paints, nodes
}

// answers: what the calls say, the classes byte by byte.
type answers struct {
	spans   []api.Span
	classes []string
}

func asked(l api.Lang, t []api.Node) answers {
	out := answers{spans: paint.Spans(l, t)}
	for at := -1; at < 40; at++ {
		out.classes = append(out.classes, paint.Class(l, t, at))
	}
	return out
}

func (a answers) same(b answers) bool {
	return slices.Equal(a.spans, b.spans) && slices.Equal(a.classes, b.classes)
}

// texts: all classes that are told.
func (a answers) texts() []string {
	out := slices.Clone(a.classes)
	for _, s := range a.spans {
		out = append(out, s.Class)
	}
	return out
}

// P2, P3: nothing that is handed in is changed or kept, nothing that is handed out is held; the same is answered again.
func TestMemory(t *testing.T) {
	r := rand.New(rand.NewSource(215))
	names, spans := []string{"a", "b", "c", "d"}, 0
	for i := range 3000 {
		nodes := anyForest(r, r.Intn(12), names, func() int { return r.Intn(30) - 3 })
		if len(nodes) > 0 && i%10 == 0 {
			nodes[r.Intn(len(nodes))].Kids = 3
		}
		paints := anyPaints(r, 6, names)
		want := asked(lang(paints), nodes)
		l, mine, spoil := given(paints, nodes)
		wasPaints, wasNodes := room(l, mine)
		got := asked(l, mine)
		if p, n := room(l, mine); !reflect.DeepEqual(p, wasPaints) || !reflect.DeepEqual(n, wasNodes) {
			t.Fatalf("P2: %+v, %+v: something has been changed", paints, nodes)
		}
		for _, told := range got.texts() {
			if slices.ContainsFunc(l.Paints, func(p api.PaintDef) bool { return overlaps(p.Class, told) || overlaps(p.Name, told) }) {
				t.Fatalf("P2: %+v, %+v: the class %s is no new memory", paints, nodes, told)
			}
		}
		spoil()
		if !got.same(want) {
			t.Fatalf("P2: %+v, %+v: behind writing into them %v, want %v", paints, nodes, got, want)
		}
		filled(got.spans, api.Span{Class: "wiped"})
		if again := asked(lang(paints), nodes); !again.same(want) {
			t.Fatalf("P2, P3: %+v, %+v: then %v, want %v", paints, nodes, again, want)
		}
		spans += len(want.spans)
	}
	if spans < 2000 {
		t.Errorf("only %d spans", spans)
	}
}

// P3: of a language only the paint lines count, and of the nodes neither fields nor leaves nor whether they are named.
func TestWhatCounts(t *testing.T) {
	r := rand.New(rand.NewSource(216))
	names := []string{"a", "b", "c", "d"}
	for range 2000 {
		nodes := anyForest(r, r.Intn(12), names, func() int { return r.Intn(30) - 3 })
		paints := anyPaints(r, 6, names)
		want := asked(lang(paints), nodes)
		other := loaded(t, sums+`paint n "number";`)
		other.Paints = paints
		changed := slices.Clone(nodes)
		for i := range changed {
			changed[i].Named, changed[i].Field, changed[i].Leaf = r.Intn(2) == 0, pick(r, "", "a", "g"), r.Intn(9)-2
		}
		if got := asked(other, changed); !got.same(want) {
			t.Fatalf("21.1: %+v, %+v: %v, want %v", paints, changed, got, want)
		}
	}
}

// soon: fails if a call takes long.
func soon(t *testing.T, name string, call func()) {
	t.Helper()
	done := make(chan bool)
	go func() { defer close(done); call() }()
	select {
	case <-done:
	case <-time.After(30 * time.Second):
		t.Fatalf("P1, 21.2: %s: no end", name)
	}
}

// deepest: n nodes, each the only child of the one ahead of it.
func deepest(n int, node func(i int) api.Node) []api.Node {
	out := make([]api.Node, n)
	for i := range out {
		out[i] = node(i)
		out[i].Kids = min(1, n-1-i)
	}
	return out
}

// widest: n nodes side by side.
func widest(n int, node func(i int) api.Node) []api.Node {
	out := make([]api.Node, n)
	for i := range out {
		out[i] = node(i)
	}
	return out
}

// P1, 21.2: large trees: what a call does is little more than to go once over the nodes, whatever their places.
func TestHuge(t *testing.T) {
	const n = 1 << 18
	name := func(i int) string { return string(rune('a' + i%2)) }
	under := func(above, below []api.Node) []api.Node { // all of the roots of the one below the last node of the other
		above[len(above)-1].Kids = len(below)
		return slices.Concat(above, below)
	}
	narrow := func(i int) api.Node { return api.Node{Name: name(i), From: i, To: 2*n - i} }
	all := func(i int) api.Node { return api.Node{Name: name(i), To: n} }
	one := func(i int) api.Node { return api.Node{Name: name(i), From: i, To: i + 1} }
	paints := []api.PaintDef{{Name: "a", Class: "x"}, {Name: "b", Class: "y"}}
	for i := range 1 << 16 { // lines that count for nothing are no burden either
		paints = append(paints, api.PaintDef{Name: "other" + string(rune(i)), Class: "z"})
	}
	for _, c := range []struct {
		what  string
		nodes []api.Node
		want  int
	}{
		{"deep, each narrower", deepest(n, narrow), 2*n - 1},
		{"deep, all alike", deepest(n, all), 1},
		{"wide", widest(n, one), n},
		{"wide, all alike", widest(n, all), 1},
		{"wide, from the end", widest(n, func(i int) api.Node { return one(n - i) }), n},
		{"wide, each around those ahead of it", widest(n, func(i int) api.Node { return narrow(n - 1 - i) }), 2*n - 1},
		{"wide, each within those ahead of it", widest(n, narrow), 1},
		{"wide, each further than those ahead of it", widest(n, func(i int) api.Node { return api.Node{Name: name(i), To: i + 1} }), n},
		{"many below many", under(deepest(n, all), widest(n, one)), n},
		{"many below many, within one another", under(deepest(n, all), widest(n, narrow)), 1},
		{"holes, and many around them", slices.Concat(widest(n, func(i int) api.Node { return api.Node{Name: "a", From: 2 * i, To: 2*i + 1} }), deepest(n, func(int) api.Node { return api.Node{Name: "b", To: math.MaxInt} })), 2 * n},
		{"no forest", append(widest(n, one), api.Node{Kids: 1}), 0},
		{"no bytes", deepest(n, func(i int) api.Node { return api.Node{Name: name(i), From: i, To: i} }), 0},
	} {
		if tree.Roots(c.nodes) < 0 != (c.what == "no forest") {
			t.Fatalf("%s: %d", c.what, tree.Roots(c.nodes))
		}
		soon(t, c.what, func() {
			got := paint.Spans(lang(paints), c.nodes)
			if len(got) != c.want || !shaped(got) {
				t.Errorf("21.2: %s: %d spans, want %d", c.what, len(got), c.want)
			}
			for i := range 5 {
				x := i * n / 5
				if class := paint.Class(lang(paints), c.nodes, x); class != at(got, x) {
					t.Errorf("21.1: %s: %q at %d, in the spans %q", c.what, class, x, at(got, x))
				}
			}
		})
	}
}
