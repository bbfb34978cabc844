package outline_test

import (
	"math/rand"
	"reflect"
	"slices"
	"strconv"
	"strings"
	"testing"
	"time"
	"unsafe"

	"trellis/api"
	"trellis/outline"
	"trellis/tree"
)

// lent: a text whose bytes the test may write over, as nobody else does.
func lent(s string, spoilt *[]func()) string {
	b := []byte(s)
	*spoilt = append(*spoilt, func() { filled(b, '?') })
	return unsafe.String(unsafe.SliceData(b), len(b))
}

// filled: all of the list's room is written into.
func filled[T any](l []T, x T) {
	l = l[:cap(l)]
	for i := range l {
		l[i] = x
	}
}

// asking: what the calls are handed.
type asking struct {
	l     api.Lang
	nodes []api.Node
	text  string
}

// anyAsking: as it comes; some are no trees over the text.
func anyAsking(r *rand.Rand) asking {
	text := anyText(r, r.Intn(30))
	nodes := anyForest(r, r.Intn(30), names(), fields(), len(text))
	if len(nodes) > 0 && r.Intn(10) == 0 {
		nodes[r.Intn(len(nodes))].Kids = 3
	}
	return asking{anyLang(r, names(), fields()), nodes, text}
}

// given: the same with texts of its own, and spare room in which something stands; and how to write over all of it.
func (a asking) given() (asking, func()) {
	var spoilt []func()
	folds := append(slices.Clone(a.l.Folds), "a", "b", "c")
	marks := append(slices.Clone(a.l.Marks), api.MarkDef{Name: "a", Field: "f"}, api.MarkDef{Name: "b", Field: "g"})
	nodes := append(slices.Clone(a.nodes), node("a", 0, 1, 1), part("f", 0, 1), node("b", 0, 1, 3))
	for i := range folds {
		folds[i] = lent(folds[i], &spoilt)
	}
	for i := range marks {
		marks[i] = api.MarkDef{Name: lent(marks[i].Name, &spoilt), Field: lent(marks[i].Field, &spoilt)}
	}
	for i := range nodes {
		nodes[i].Name, nodes[i].Field = lent(nodes[i].Name, &spoilt), lent(nodes[i].Field, &spoilt)
	}
	mine := asking{lang(folds[:len(a.l.Folds)], marks[:len(a.l.Marks)]), nodes[:len(a.nodes)], lent(a.text, &spoilt)}
	return mine, func() {
		filled(folds, "d")
		filled(marks, api.MarkDef{Name: "d", Field: "g"})
		filled(nodes, api.Node{Name: "wiped", Kids: 7})
		for _, spoil := range spoilt {
			spoil()
		}
	}
}

// room: a copy of what stands there, the lists' spare room too.
func (a asking) room() asking {
	folds, marks, nodes := slices.Clone(a.l.Folds[:cap(a.l.Folds)]), slices.Clone(a.l.Marks[:cap(a.l.Marks)]), slices.Clone(a.nodes[:cap(a.nodes)])
	for i := range folds {
		folds[i] = strings.Clone(folds[i])
	}
	for i := range marks {
		marks[i] = api.MarkDef{Name: strings.Clone(marks[i].Name), Field: strings.Clone(marks[i].Field)}
	}
	for i := range nodes {
		nodes[i].Name, nodes[i].Field = strings.Clone(nodes[i].Name), strings.Clone(nodes[i].Field)
	}
	return asking{lang(folds, marks), nodes, strings.Clone(a.text)}
}

// answers: what the calls say.
type answers struct {
	folds   []api.Fold
	symbols []api.Symbol
}

func (a asking) asked() answers {
	return answers{outline.Folds(a.l, a.nodes, a.text), outline.Symbols(a.l, a.nodes, a.text)}
}

func (a answers) same(b answers) bool {
	return slices.Equal(a.folds, b.folds) && slices.Equal(a.symbols, b.symbols)
}

// P2, P3: nothing that is handed in is changed or kept, nothing that is handed out is held; the same is answered again.
func TestMemory(t *testing.T) {
	r := rand.New(rand.NewSource(226))
	folds, symbols := 0, 0
	for range 5000 {
		a := anyAsking(r)
		want := a.asked()
		mine, spoil := a.given()
		was := mine.room()
		got := mine.asked()
		if !reflect.DeepEqual(mine.room(), was) {
			t.Fatalf("P2: %+v: something has been changed", a)
		}
		spoil() // texts that are shared with what was handed in are other ones now
		if !got.same(want) {
			t.Fatalf("P2: %+v: behind writing into it %v, want %v", a, got, want)
		}
		filled(got.folds, api.Fold{First: 7, Last: 9})
		filled(got.symbols, api.Symbol{Name: "wiped"})
		if again := a.asked(); !again.same(want) {
			t.Fatalf("P2, P3: %+v: then %v, want %v", a, again, want)
		}
		folds, symbols = folds+len(want.folds), symbols+len(want.symbols)
	}
	if folds < 2000 || symbols < 2000 {
		t.Errorf("only %d folds, %d symbols", folds, symbols)
	}
}

// 22.1, 22.2: of a language only folds and marks count, for folds the former, for symbols the latter; and of the nodes not their leaves.
func TestWhatCounts(t *testing.T) {
	r := rand.New(rand.NewSource(227))
	other := loaded(t, little+"fold block; mark function name; mark assign target;")
	for range 3000 {
		a := anyAsking(r)
		want := a.asked()
		b := asking{other, slices.Clone(a.nodes), a.text}
		for i := range b.nodes {
			b.nodes[i].Leaf = r.Intn(9) - 2
		}
		b.l.Folds = a.l.Folds
		if got := b.asked().folds; !slices.Equal(got, want.folds) {
			t.Fatalf("22.1: %+v: %v, want %v", b, got, want.folds)
		}
		b.l.Folds, b.l.Marks = other.Folds, a.l.Marks
		if got := b.asked().symbols; !slices.Equal(got, want.symbols) {
			t.Fatalf("22.2: %+v: %v, want %v", b, got, want.symbols)
		}
	}
}

// soon: fails if a call takes long.
func soon(t *testing.T, name string, call func()) {
	t.Helper()
	done := make(chan bool)
	go func() { defer close(done); call() }()
	select {
	case <-done:
	case <-time.After(30 * time.Second):
		t.Fatalf("P1: %s: no end", name)
	}
}

// row: n nodes, one behind the other; how many children each has is said by kids.
func row(n int, kids func(i int) int, each func(i int) api.Node) []api.Node {
	out := make([]api.Node, n)
	for i := range out {
		out[i] = each(i)
		out[i].Kids = kids(i)
	}
	return out
}

// P1: large trees and long texts: what a call does is little more than to go once over them, and what nested symbols are called is no burden.
func TestHuge(t *testing.T) {
	const n = 1 << 17
	text := strings.Repeat("ab\n\n", n) // rows of two bytes and of none, one behind the other
	l := lang([]string{"m"}, []api.MarkDef{{Name: "m", Field: "f"}})
	for i := range 1 << 16 { // lines that count for nothing are no burden either
		l.Folds = append(l.Folds, "other"+strconv.Itoa(i))
		l.Marks = append(l.Marks, api.MarkDef{Name: "other" + strconv.Itoa(i), Field: "f"})
	}
	flat := func(int) int { return 0 }
	deep := func(i int) int { return min(1, n-1-i) }
	all := func(kids int) api.Node { return node("m", 0, len(text), kids) }
	field := func(f string, x api.Node) api.Node { x.Field = f; return x }
	for _, c := range []struct {
		what           string
		nodes          []api.Node
		text           string
		folds, symbols int
		deepest        int
	}{
		{"wide", append([]api.Node{all(n)}, row(n, flat, func(i int) api.Node { return node("m", 4*i, 4*i+4, 0) })...), text, n, 0, 0},
		{"wide, the last child tells", append(append([]api.Node{all(n + 1)}, row(n, flat, func(i int) api.Node { return node("m", 4*i, 4*i+2, 0) })...), part("f", 0, 2)), text, 1, 1, 0},
		{"wide, each around those behind it", row(n, flat, func(i int) api.Node { return node("m", i, len(text)-i, 0) }), text, n / 2, 0, 0},
		{"wide, all of it, from the end", row(n, flat, func(i int) api.Node { return node("m", 4*(n-1-i), len(text), 0) }), text, n, 0, 0},
		{"deep", row(n, deep, func(i int) api.Node { return all(0) }), text, 1, 0, 0},
		{"deep, each is called what is below it", row(n, deep, func(i int) api.Node { return field("f", node("m", i, i+9, 0)) }), text, n / 2, n - 1, n - 2},
		{"deep, each is called something", row(2*n, func(i int) int { return (1 - i%2) * (1 + min(1, 2*n-2-i)) }, func(i int) api.Node {
			if i%2 == 1 {
				return part("f", i, i+1)
			}
			return node("m", i, len(text), 0)
		}), text, n / 2, n, n - 1},
		{"many symbols side by side", row(2*n, func(i int) int { return 1 - i%2 }, func(i int) api.Node { return field("f", node("m", 2*i, 2*i+2, 0)) }), text, n, n, 0},
		{"no forest", append(row(n, flat, func(i int) api.Node { return all(0) }), all(1)), text, 0, 0, 0},
		{"a text above MaxText", []api.Node{node("m", 1<<21, 1<<22, 1), part("f", 1<<22-2, 1<<22)}, strings.Repeat("\n", 1<<22), 1, 1, 0},
	} {
		if tree.Roots(c.nodes) < 0 != (c.what == "no forest") {
			t.Fatalf("%s: %d", c.what, tree.Roots(c.nodes))
		}
		soon(t, c.what, func() {
			folds, symbols := outline.Folds(l, c.nodes, c.text), outline.Symbols(l, c.nodes, c.text)
			if len(folds) != c.folds || !rising(folds, c.text) {
				t.Errorf("22.1: %s: %d folds, want %d", c.what, len(folds), c.folds)
			}
			deepest := 0
			for _, s := range symbols {
				deepest = max(deepest, s.Depth)
			}
			if len(symbols) != c.symbols || deepest != c.deepest || !stepwise(symbols) {
				t.Errorf("22.2: %s: %d symbols, up to the depth %d, want %d, %d", c.what, len(symbols), deepest, c.symbols, c.deepest)
			}
		})
	}
}

// P1: what nested symbols are called may be far more than the text in all.
func TestLongNames(t *testing.T) {
	const n = 1 << 15
	nodes := row(n, func(i int) int { return min(1, n-1-i) }, func(i int) api.Node {
		return api.Node{Name: "m", Named: true, Field: "f", From: i, To: n}
	})
	text := strings.Repeat("x", n)
	soon(t, "long names", func() {
		symbols := outline.Symbols(lang(nil, []api.MarkDef{{Name: "m", Field: "f"}}), nodes, text)
		sum := 0
		for i, s := range symbols {
			sum += len(s.Called)
			if s.Depth != i || s.From != i || s.Called != text[i+1:] {
				t.Fatalf("22.2: %d, from %d, of %d bytes at the depth %d", s.Depth, s.From, len(s.Called), i)
			}
		}
		if sum != n*(n-1)/2 {
			t.Errorf("22.2: %d bytes", sum)
		}
	})
}
