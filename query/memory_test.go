package query_test

import (
	"math/rand"
	"reflect"
	"slices"
	"strings"
	"testing"
	"time"
	"unsafe"

	"trellis/api"
	"trellis/query"
	"trellis/tree"
)

// room: memory that a list or a text takes, a list's spare room too.
type room struct {
	from, to uintptr
	list     bool
}

func (a room) meets(b room) bool { return a.from < b.to && b.from < a.to }

// rooms: those of all lists and texts of a value.
func rooms(v reflect.Value) []room {
	var out []room
	switch v.Kind() {
	case reflect.String:
		if s := v.String(); s != "" {
			at := uintptr(unsafe.Pointer(unsafe.StringData(s)))
			out = append(out, room{at, at + uintptr(len(s)), false})
		}
	case reflect.Slice:
		if v.Cap() > 0 {
			out = append(out, room{v.Pointer(), v.Pointer() + uintptr(v.Cap())*v.Type().Elem().Size(), true})
		}
		for i := range v.Len() {
			out = append(out, rooms(v.Index(i))...)
		}
	case reflect.Struct:
		for i := range v.NumField() {
			out = append(out, rooms(v.Field(i))...)
		}
	}
	return out
}

// checkNew: an answer shares no memory with the others, and no two lists of it share any.
func checkNew(t *testing.T, what string, answer any, others ...any) {
	t.Helper()
	mine := rooms(reflect.ValueOf(answer))
	var theirs []room
	for _, o := range others {
		theirs = append(theirs, rooms(reflect.ValueOf(o))...)
	}
	for i, a := range mine {
		if slices.ContainsFunc(theirs, a.meets) {
			t.Fatalf("P2: %s: no new memory", what)
		}
		if slices.ContainsFunc(mine[:i], func(b room) bool { return a.list && b.list && a.meets(b) }) {
			t.Fatalf("P2: %s: two lists share memory", what)
		}
	}
}

// lent: a list with texts and spare room of its own, in which something stands.
func lent[T any](l []T, text func(*T) []*string, spare ...T) []T {
	out := append(slices.Clone(l), spare...)
	for i := range out {
		for _, s := range text(&out[i]) {
			*s = strings.Clone(*s)
		}
	}
	return out[:len(l)]
}

func patternTexts(n *api.PatNode) []*string { return []*string{&n.Name, &n.Field, &n.Capture} }

func condTexts(c *api.Cond) []*string { return []*string{&c.A, &c.B, &c.Text} }

func nodeTexts(n *api.Node) []*string { return []*string{&n.Name, &n.Field} }

// given: what is handed in, with memory of its own.
type given struct {
	q     api.Query
	nodes []api.Node
	text  []byte
}

func handed(q api.Query, nodes []api.Node, text string) given {
	return given{
		api.Query{Nodes: lent(q.Nodes, patternTexts, api.PatNode{Name: "spare", Kids: 1}, api.PatNode{}), Conds: lent(q.Conds, condTexts, api.Cond{A: "spare"})},
		lent(nodes, nodeTexts, api.Node{Name: "spare", Kids: 3}, api.Node{Name: "a", Named: true}),
		[]byte(text),
	}
}

// all: what stands in it, its spare room too.
func (g given) all() given {
	return given{
		api.Query{Nodes: slices.Clone(g.q.Nodes[:cap(g.q.Nodes)]), Conds: slices.Clone(g.q.Conds[:cap(g.q.Conds)])},
		slices.Clone(g.nodes[:cap(g.nodes)]), slices.Clone(g.text),
	}
}

func (g given) asked() []api.Found {
	return query.All(g.q, g.nodes, unsafe.String(unsafe.SliceData(g.text), len(g.text)))
}

// filled: all of the list's room is written into.
func filled[T any](l []T, x T) {
	l = l[:cap(l)]
	for i := range l {
		l[i] = x
	}
}

// wipe writes over all of it.
func (g given) wipe() {
	filled(g.q.Nodes, api.PatNode{Name: "wiped", Kids: 9})
	filled(g.q.Conds, api.Cond{A: "wiped"})
	filled(g.nodes, api.Node{Name: "wiped", Kids: 9})
	filled(g.text, '?')
}

// P2, P3: All changes nothing, keeps nothing, and hands out new memory; the same is answered again.
func TestAllMemory(t *testing.T) {
	r := rand.New(rand.NewSource(209))
	matches := 0
	for range 5000 {
		q, nodes := randomPattern(r, 1+r.Intn(4)), randomTrees(r, 1+r.Intn(12), "xyxy")
		if r.Intn(4) == 0 {
			q = spoiltQuery(r, q)
		}
		want := found(query.All(q, nodes, "xyxy"))
		g := handed(q, nodes, "xyxy")
		was := g.all()
		got := g.asked()
		matches += len(got)
		if !reflect.DeepEqual(g.all(), was) {
			t.Fatalf("P2: All(%+v, %+v) has changed something", q, nodes)
		}
		checkNew(t, "All", got, g.q, g.nodes, g.asked())
		g.wipe()
		if !sameLists(found(got), want) {
			t.Fatalf("P2: All(%+v, %+v) behind writing into its arguments: %v, want %v", q, nodes, got, want)
		}
		for _, f := range got {
			filled(f.Nodes, -7)
		}
		filled(got, api.Found{})
		if again := found(query.All(q, nodes, "xyxy")); !sameLists(again, want) {
			t.Fatalf("P2, P3: All(%+v, %+v) = %v, then %v", q, nodes, want, again)
		}
	}
	if matches < 2000 {
		t.Errorf("only %d matches", matches)
	}
}

// P2, P3: the same of Parse, Print and Shaped.
func TestTextMemory(t *testing.T) {
	r := rand.New(rand.NewSource(210))
	for range 3000 {
		q := randomQuery(r, 8, 4)
		if r.Intn(4) == 0 {
			q = spoiltQuery(r, q)
		}
		g := handed(q, nil, "")
		was := g.all()
		text, code := query.Print(g.q)
		shaped := query.Shaped(g.q)
		if !reflect.DeepEqual(g.all(), was) {
			t.Fatalf("P2: Print or Shaped has changed %+v", q)
		}
		checkNew(t, "Print", text, g.q)
		if again, e := query.Print(q); again != text || e != code || query.Shaped(q) != shaped {
			t.Fatalf("P3: Print(%+v) = %q, then %q", q, text, again)
		}
		if code != api.OK {
			continue
		}
		laidOut, _ := laid(r, wordsOf(text))
		bytes := []byte(laidOut)
		got := read(unsafe.String(unsafe.SliceData(bytes), len(bytes)))
		if string(bytes) != laidOut {
			t.Fatalf("P2: Parse has changed %q", laidOut)
		}
		checkNew(t, "Parse", got.query, laidOut, read(laidOut).query)
		filled(bytes, '?')
		if !same(got, answer{query: q}) {
			t.Fatalf("P2: Parse(%q) behind writing into the text: %+v", laidOut, got)
		}
		filled(got.query.Nodes, api.PatNode{Name: "wiped"})
		filled(got.query.Conds, api.Cond{A: "wiped"})
		if again := read(laidOut); !same(again, answer{query: q}) {
			t.Fatalf("P2, P3: Parse(%q), then %+v", laidOut, again)
		}
	}
}

// soon: fails if a call takes long.
func soon(t *testing.T, name string, call func()) {
	t.Helper()
	done := make(chan bool)
	go func() { defer close(done); call() }()
	select {
	case <-done:
	case <-time.After(30 * time.Second):
		t.Fatalf("P1, 20.5: %s: no end", name)
	}
}

// P1, 20.5: large trees: what a call does is no more than to ask each node once for each of the pattern's.
func TestHuge(t *testing.T) {
	const n = 1 << 18
	deep, wide, comb := make([]api.Node, n), make([]api.Node, n), make([]api.Node, n)
	wide[0].Kids = n - 1
	for i := range n {
		deep[i] = api.Node{Name: "a", Named: true, To: n, Kids: min(1, n-1-i)}
		wide[i].Name, wide[i].Named, wide[i].From, wide[i].To = "a", true, i, i+1
		comb[i] = api.Node{Name: "a", Named: true, From: i, To: n} // each second one has a leaf and the next one
		if i%2 == 0 && i < n-2 {
			comb[i].Kids = 2
		}
	}
	comb[n-2].Kids = 1
	for _, l := range [][]api.Node{deep, wide, comb} {
		if tree.Roots(l) != 1 {
			t.Fatal("no tree")
		}
	}
	text := strings.Repeat("x", n)
	chain := strings.Repeat("(a ", 31) + `"b"` + strings.Repeat(")", 31)
	row := "(_" + strings.Repeat(" (a)", 30) + " (b))"
	for _, c := range []struct {
		name, query string
		nodes       []api.Node
		want        int
	}{
		{"a chain in a deep tree", chain, deep, 0}, {"a chain that fits", strings.ReplaceAll(chain, `"b"`, "(a)"), deep, n - 31}, {"a row in a deep tree", row, deep, 0}, {"any in a deep tree", "(_)", deep, n},
		{"a row in a wide tree", row, wide, 0}, {"a row that fits", "(_" + strings.Repeat(" (a)", 31) + ")", wide, 1}, {"a child that is not there", `(a (a "b"))`, wide, 0}, {"any in a wide tree", "(_)", wide, n}, {"a chain in a wide tree", chain, wide, 0},
		{"a chain in a comb", chain, comb, 0}, {"pairs in a comb", "(_ (_) (_ (_) (_)))", comb, n/2 - 2}, {"the last one", "(_ (_ (_) (_)) (_))", comb, 0},
		{"conditions that hold", "(_ (_) @x) @y" + strings.Repeat(" when @x = @y", 16), deep, n - 1}, {"conditions that do not", `(_) @x unless @x = @x`, deep, 0}, {"texts", "(_) @x" + strings.Repeat(` when @x = "x"`, 16), wide, n},
	} {
		q := asked(t, c.query)
		soon(t, c.name, func() {
			if got := query.All(q, c.nodes, text); len(got) != c.want {
				t.Errorf("20.5: %s: %d matches, want %d", c.name, len(got), c.want)
			}
		})
	}
}
