package tree_test

import (
	"math"
	"math/rand"
	"reflect"
	"slices"
	"strings"
	"testing"
	"time"

	"trellis/api"
	"trellis/tree"
)

// enough: fails if one of the kinds has come up too seldom for the test to tell anything.
func enough(t *testing.T, least int, seen map[string]int, kinds ...string) {
	t.Helper()
	for _, k := range kinds {
		if seen[k] < least {
			t.Errorf("only %d of %q: %v", seen[k], k, seen)
		}
	}
}

// 15.1, 15.2 against the chapter's words.
func TestTokenModel(t *testing.T) {
	r := rand.New(rand.NewSource(1))
	seen := map[string]int{}
	for range 20000 {
		l := api.Lang{Gram: anyGram(r)}
		term := anyNumber(r)
		n := anyNode(r)
		var want []api.Node
		if k := kindOf(l.Gram, term); term != 0 && (k == aToken || k == aSecret) {
			want = []api.Node{{Name: l.Gram.Terms[term].Name, Named: !l.Gram.Terms[term].Lit, From: n.From, To: n.To, Leaf: n.Leaf}}
			seen["token"]++
		}
		if got := tree.Token(l, term, n.Leaf, n.From, n.To); !slices.Equal(got, want) {
			t.Fatalf("15.1: %+v: Token of %d: %+v, want %+v", l.Gram, term, got, want)
		}
		kids := anyList(r, r.Intn(5))
		want = kids
		if kindOf(l.Gram, term) == aSecret {
			want = nil
			seen["hidden"]++
		}
		if got := tree.Show(l, term, kids); !slices.Equal(got, want) {
			t.Fatalf("15.2: %+v: Show of %d: %+v, want %+v", l.Gram, term, got, want)
		}
	}
	enough(t, 500, seen, "token", "hidden")
}

// 15.3 against the chapter's words, wrong arguments too.
func TestReduceModel(t *testing.T) {
	r := rand.New(rand.NewSource(2))
	seen := map[string]int{}
	for range 40000 {
		l := api.Lang{Gram: anyGram(r)}
		prod := r.Intn(len(l.Gram.Prods) + 1)
		kids, ends := made(r, l.Gram, prod)
		switch r.Intn(10) {
		case 0:
			kids = append(kids, nil)
		case 1:
			ends = ends[1:]
		case 2:
			if len(kids) > 0 {
				kids[r.Intn(len(kids))] = anyList(r, 1+r.Intn(4))
			}
		case 3:
			prod = anyNumber(r)
		}
		got, want := tree.Reduce(l, prod, kids, ends), plainReduce(l.Gram, prod, kids, ends)
		if !slices.Equal(got, want) {
			t.Fatalf("15.3: %+v: Reduce(%d, %+v, %v) = %+v, want %+v", l.Gram, prod, kids, ends, got, want)
		}
		switch {
		case len(got) == 0:
			seen["nothing"]++
		case tree.Roots(got) == 1:
			seen["a tree"]++
		default:
			seen["some"]++
		}
	}
	enough(t, 2000, seen, "nothing", "a tree", "some")
}

// checkList: 15.4 to 15.8 and 15.11 of a list, against the chapter's words.
func checkList(t *testing.T, l []api.Node) bool {
	t.Helper()
	roots, ok := bushes(l)
	if !ok {
		if n := tree.Roots(l); n != -1 || tree.Text(l) != "" || len(tree.Path(l, 0)) != 0 || tree.Walk(l).Place() != -1 {
			t.Fatalf("15.4: %+v is no forest: %d", l, n)
		}
		for at := range l {
			nothing(t, l, at)
		}
		return false
	}
	if n := tree.Roots(l); n != len(roots) {
		t.Fatalf("15.4: %+v: %d roots, want %d", l, n, len(roots))
	}
	if s, want := tree.Text(l), plainText(roots); s != want {
		t.Fatalf("15.7: %+v: %q, want %q", l, s, want)
	}
	ways := plainWays(roots)
	for at, w := range ways {
		if n, k, p := tree.Size(l, at), tree.Kids(l, at), tree.Parent(l, at); n != w.size || p != w.parent || !slices.Equal(k, w.kids) {
			t.Fatalf("15.5: %+v: %d: size %d, children %v, parent %d, want %+v", l, at, n, k, p, w)
		}
	}
	for _, at := range []int{math.MinInt, -1, 0, 1, 2, 3, 5, 7, 8, math.MaxInt - 1, math.MaxInt} {
		if p, want := tree.Path(l, at), plainPath(roots, at); !slices.Equal(p, want) {
			t.Fatalf("15.6: %+v: at %d: %v, want %v", l, at, p, want)
		}
	}
	checkWalk(t, l, ways)
	return true
}

// checkWalk: the moves of cursors from each place, and the way over all places.
func checkWalk(t *testing.T, l []api.Node, ways []plainWay) {
	t.Helper()
	c := tree.Walk(l)
	if len(l) == 0 {
		if c.Place() != -1 || c.Down() || c.Next() || c.Up() {
			t.Fatalf("15.8: at %d of no nodes", c.Place())
		}
		return
	}
	for at := range l {
		if c.Place() != at {
			t.Fatalf("15.8, 15.11: %+v: the cursor comes to %d, want %d", l, c.Place(), at)
		}
		checkMoves(t, l, c, ways)
		if c.Down() {
			continue
		}
		for !c.Next() {
			if !c.Up() {
				if at != len(l)-1 {
					t.Fatalf("15.11: %+v: the way ends at %d", l, at)
				}
				break
			}
		}
	}
}

// checkMoves: what each move comes to from where a cursor stands, on copies of it.
func checkMoves(t *testing.T, l []api.Node, c *tree.Cursor, ways []plainWay) {
	t.Helper()
	at := c.Place()
	below, beside := -1, -1
	if len(ways[at].kids) > 0 {
		below = ways[at].kids[0]
	}
	if next := at + ways[at].size; next < len(l) && ways[next].parent == ways[at].parent {
		beside = next
	}
	for i, want := range []int{below, beside, ways[at].parent} {
		other := *c
		ok := []func() bool{other.Down, other.Next, other.Up}[i]()
		if ok != (want != -1) || ok && other.Place() != want || !ok && other.Place() != at || c.Place() != at {
			t.Fatalf("15.8: %+v: move %d from %d: %v, to %d, want %d", l, i, at, ok, other.Place(), want)
		}
	}
}

func TestListModel(t *testing.T) {
	r := rand.New(rand.NewSource(3))
	seen := map[string]int{}
	for i := range 20000 {
		l := anyList(r, r.Intn(12))
		if i%200 == 0 {
			l = anyForest(r, 100)
		}
		if !checkList(t, l) {
			seen["no forest"]++
		} else if len(l) > 5 {
			seen["great"]++
		}
	}
	enough(t, 2000, seen, "no forest", "great")
}

// All lists of up to six nodes with -1 to 4 children.
func TestAllShapes(t *testing.T) {
	forests := make([]int, 7)
	var all func(kids []int)
	all = func(kids []int) {
		if checkList(t, shape(kids...)) {
			forests[len(kids)]++
		}
		for n := -1; n <= 4 && len(kids) < 6; n++ {
			all(append(kids, n))
		}
	}
	all(nil)
	if !slices.Equal(forests, []int{1, 1, 2, 5, 14, 42, 131}) { // Catalan's numbers; of six nodes one has five children
		t.Errorf("15.4: %v forests", forests)
	}
}

// The numbers of nodes that are handed in: by these they are told in what comes out.
const firstMark = 1000

func marked(kids [][]api.Node) [][]api.Node {
	n := firstMark
	for _, l := range kids {
		for i := range l {
			l[i].Leaf = n
			n++
		}
	}
	return kids
}

// kept: the nodes that were handed in, which come first, and whether each is a root there.
func kept(g api.Gram, p api.Prod, kids [][]api.Node) ([]api.Node, []bool) {
	var out []api.Node
	var root []bool
	for i, ref := range p.Rhs {
		if ref.As == "" && kindOf(g, ref.Sym) == aSecret {
			continue
		}
		for at := range kids[i] {
			root = append(root, tree.Parent(kids[i], at) == -1)
		}
		out = append(out, kids[i]...)
	}
	return out, root
}

// 15.9: a forest, a tree if the Lhs is shown; what was handed in is in it, in its order.
func TestForests(t *testing.T) {
	r := rand.New(rand.NewSource(4))
	seen := map[string]int{}
	for range 20000 {
		g := anyGram(r)
		if len(g.Prods) == 0 {
			continue
		}
		prod := r.Intn(len(g.Prods))
		p := g.Prods[prod]
		kids, ends := made(r, g, prod)
		marked(kids)
		got := tree.Reduce(api.Lang{Gram: g}, prod, kids, ends)
		shown := p.Lhs >= 0 && p.Lhs < len(g.Syms) && g.Syms[p.Lhs].Kind == api.SymShown
		if n := tree.Roots(got); n < 0 || shown && n != 1 {
			t.Fatalf("15.9: %+v: %+v has %d roots", p, got, n)
		}
		want, root := kept(g, p, kids)
		heads := 0
		for at, n := range got {
			if n.Leaf < firstMark {
				heads++
				continue
			}
			was, isRoot := want[at-heads], root[at-heads]
			if isRoot {
				n.Field, n.Name, n.Named = was.Field, was.Name, was.Named
				seen["roots"]++
			} else {
				seen["others"]++
			}
			if n != was {
				t.Fatalf("15.9: %+v: %+v was %+v", p, n, was)
			}
			if isRoot { // what was a root is a root, or a child of a node that is new
				if above := tree.Parent(got, at); above >= 0 && got[above].Leaf >= firstMark {
					t.Fatalf("15.9: %+v: the root %+v is below %+v", p, n, got[above])
				}
			}
		}
		if len(want) != len(got)-heads {
			t.Fatalf("15.9: %+v: %d nodes of %d are kept", p, len(got)-heads, len(want))
		}
		seen["heads"] += heads
	}
	enough(t, 2000, seen, "roots", "others", "heads")
}

// 15.11: children and parents; subtrees.
func TestOnesWay(t *testing.T) {
	r := rand.New(rand.NewSource(5))
	for range 3000 {
		l := anyForest(r, r.Intn(15))
		roots := 0
		for at := range l {
			size := 1
			for _, k := range tree.Kids(l, at) {
				if tree.Parent(l, k) != at || k != at+size {
					t.Fatalf("15.11: %+v: %d is a child of %d", l, k, at)
				}
				size += tree.Size(l, k)
			}
			if tree.Size(l, at) != size || len(tree.Kids(l, at)) != l[at].Kids {
				t.Fatalf("15.11: %+v: the subtree of %d has %d nodes", l, at, size)
			}
			if p := tree.Parent(l, at); p == -1 {
				roots++
			} else if !slices.Contains(tree.Kids(l, p), at) {
				t.Fatalf("15.11: %+v: %d is the parent of %d", l, p, at)
			}
		}
		if roots != tree.Roots(l) {
			t.Fatalf("15.11: %+v: %d roots", l, roots)
		}
	}
}

// roomy: a list with spare room, and what is in it.
func roomy[T any](l []T, spare T) []T {
	return append(append(make([]T, 0, len(l)+2), l...), spare, spare)[:len(l)]
}

// whole: the list with all that is in its spare room.
func whole[T any](l []T) []T { return slices.Clone(l[:cap(l)]) }

// filled: all of the list's room is written into.
func filled[T any](l []T, x T) {
	l = l[:cap(l)]
	for i := range l {
		l[i] = x
	}
}

func roomyGram(g api.Gram) api.Gram {
	out := api.Gram{Terms: roomy(g.Terms, api.TermDef{Name: "spare"}), Syms: roomy(g.Syms, api.Sym{Name: "spare"}), Prods: roomy(g.Prods, api.Prod{Lhs: -3})}
	for i := range out.Prods {
		out.Prods[i].Rhs = roomy(out.Prods[i].Rhs, api.Ref{Sym: -5})
	}
	return out
}

func wholeGram(g api.Gram) api.Gram {
	out := api.Gram{Terms: whole(g.Terms), Syms: whole(g.Syms), Prods: whole(g.Prods)}
	for i := range out.Prods {
		out.Prods[i].Rhs = whole(out.Prods[i].Rhs)
	}
	return out
}

// handed: what goes in.
type handed struct {
	gram api.Gram
	kids [][]api.Node
	ends []int
	term int
	prod int
	at   int
}

func (h handed) whole() handed {
	h.gram, h.kids, h.ends = wholeGram(h.gram), whole(h.kids), whole(h.ends)
	for i := range h.kids {
		h.kids[i] = whole(h.kids[i])
	}
	return h
}

// wiped: other things stand in every list, its spare room too.
func (h handed) wiped() {
	for i := range h.gram.Prods {
		filled(h.gram.Prods[i].Rhs, api.Ref{Sym: -9})
	}
	filled(h.gram.Prods, api.Prod{Lhs: 77})
	filled(h.gram.Terms, api.TermDef{Name: "wiped"})
	filled(h.gram.Syms, api.Sym{Name: "wiped"})
	for _, l := range h.kids {
		filled(l, api.Node{Name: "wiped", Kids: 5})
	}
	filled(h.kids, nil)
	filled(h.ends, 99)
}

// answers: what comes out.
type answers struct {
	lists          [][]api.Node
	kids, path     []int
	text           string
	roots, size, p int
	cursor         *tree.Cursor
}

func (h handed) ask() answers {
	l := api.Lang{Gram: h.gram}
	first := h.kids[0]
	return answers{
		lists: [][]api.Node{tree.Token(l, h.term, 1, 2, 3), tree.Show(l, h.term, first), tree.Reduce(l, h.prod, h.kids[1:], h.ends)},
		kids:  tree.Kids(first, h.at), path: tree.Path(first, h.at), text: tree.Text(first),
		roots: tree.Roots(first), size: tree.Size(first, h.at), p: tree.Parent(first, h.at), cursor: tree.Walk(first),
	}
}

func (a answers) clone() answers {
	a.lists = slices.Clone(a.lists)
	for i := range a.lists {
		a.lists[i] = slices.Clone(a.lists[i])
	}
	a.kids, a.path = slices.Clone(a.kids), slices.Clone(a.path)
	return a
}

func (a answers) equal(b answers) bool {
	return slices.EqualFunc(a.lists, b.lists, slices.Equal) && slices.Equal(a.kids, b.kids) && slices.Equal(a.path, b.path) && a.text == b.text && a.roots == b.roots && a.size == b.size && a.p == b.p
}

// wiped: other things stand in every list, its spare room too.
func (a answers) wiped() {
	for _, l := range a.lists {
		filled(l, api.Node{Name: "scribble", Kids: 3})
	}
	filled(a.kids, -7)
	filled(a.path, -7)
}

// places: those that a cursor comes to on its way over all of them.
func places(c *tree.Cursor) []int {
	var out []int
	if c.Place() == -1 {
		return nil
	}
	for {
		out = append(out, c.Place())
		if c.Down() {
			continue
		}
		for !c.Next() {
			if !c.Up() {
				return out
			}
		}
	}
}

// P2, P3: nothing that is handed in is changed or kept, nothing that is handed out is held; the same is answered again.
func TestMemory(t *testing.T) {
	r := rand.New(rand.NewSource(6))
	seen := map[string]int{}
	for range 4000 {
		h := handed{gram: roomyGram(anyGram(r)), term: r.Intn(6), at: r.Intn(5)}
		h.prod = r.Intn(len(h.gram.Prods) + 1)
		kids, ends := made(r, h.gram, h.prod)
		h.kids, h.ends = roomy(append([][]api.Node{anyForest(r, r.Intn(8))}, kids...), nil), roomy(ends, 55)
		for i := range h.kids {
			h.kids[i] = roomy(h.kids[i], api.Node{Name: "spare"})
		}
		before := h.whole()
		one := h.ask()
		want := one.clone()
		one.wiped()
		two := h.ask()
		if !two.equal(want) {
			t.Fatalf("P2, P3: %+v: %+v, then %+v", before, want, two)
		}
		if !reflect.DeepEqual(h.whole(), before) {
			t.Fatalf("P2: %+v has been changed to %+v", before, h.whole())
		}
		way := places(tree.Walk(h.kids[0]))
		three := h.ask()
		if len(way) > 1 {
			three.cursor.Down()
			three.cursor.Next()
		}
		h.wiped()
		if !three.equal(want) {
			t.Fatalf("P2: %+v: the answer is bound to what was handed in", before)
		}
		if got := places(two.cursor); !slices.Equal(got, way) || len(got) != len(before.kids[0])-2 {
			t.Fatalf("P2, P3: %+v: a cursor goes over %v, want %v", before, got, way)
		}
		if len(want.lists[2]) > 0 {
			seen["reduced"]++
		}
		if len(want.lists[0]) > 0 {
			seen["tokens"]++
		}
	}
	enough(t, 500, seen, "reduced", "tokens")
}

// soon: fails if a call takes long.
func soon(t *testing.T, name string, call func()) {
	t.Helper()
	done := make(chan bool)
	go func() { call(); close(done) }()
	select {
	case <-done:
	case <-time.After(20 * time.Second):
		t.Fatalf("P1: %s does not end", name)
	}
}

// P1: lists that are deep, or wide, or both.
func TestHuge(t *testing.T) {
	const n = 1 << 20
	deep, wide, comb := make([]api.Node, n), make([]api.Node, n), make([]api.Node, n)
	for i := range n {
		deep[i], wide[i], comb[i] = inner("a", "", 0, 9, 1), inner("a", "", i, i+1, 0), inner("a", "", 0, i+1, 2*(1-i%2))
	}
	deep[n-1].Kids = 0
	wide[0] = inner("a", "", 0, n, n-1)
	comb[n-2].Kids = 1 // a node that has none, and one that has two, again and again
	for name, l := range map[string][]api.Node{"deep": deep, "wide": wide, "comb": comb} {
		soon(t, name, func() { checkHuge(t, name, l) })
	}
}

func checkHuge(t *testing.T, name string, l []api.Node) {
	if k := tree.Roots(l); k != 1 {
		t.Errorf("15.4: %s: %d roots", name, k)
		return
	}
	if s := tree.Text(l); strings.Count(s, "(a") != len(l) || strings.Count(s, ")") != len(l) {
		t.Errorf("15.7: %s: %d bytes", name, len(s))
	}
	if got := places(tree.Walk(l)); len(got) != len(l) || got[len(l)-1] != len(l)-1 {
		t.Errorf("15.11: %s: %d places", name, len(got))
	}
	if p := tree.Path(l, 0); p[0] != 0 || name == "deep" && len(p) != len(l) {
		t.Errorf("15.6: %s: %d nodes cover the byte", name, len(p))
	}
	if k := tree.Size(l, 0); k != len(l) {
		t.Errorf("15.5: %s: %d", name, k)
	}
	if p := tree.Parent(l, len(l)-1); name == "wide" && p != 0 || name != "wide" && p != len(l)-2 {
		t.Errorf("15.5: %s: %d", name, p)
	}
	if k := tree.Kids(l, 0); len(k) != l[0].Kids {
		t.Errorf("15.5: %s: %d children", name, len(k))
	}
	g := api.Gram{Terms: []api.TermDef{{}}, Syms: []api.Sym{{Name: "s", Kind: api.SymShown}}, Prods: []api.Prod{{Lhs: 0, Rhs: []api.Ref{{Sym: -1, As: "x", Field: "f"}, {Sym: 0, Field: "g", As: "y"}}}}}
	if got := tree.Reduce(api.Lang{Gram: g}, 0, [][]api.Node{l, l}, []int{0, 1, 2}); len(got) != 2*len(l)+2 || tree.Roots(got) != 1 {
		t.Errorf("15.3: %s: %d nodes", name, len(got))
	}
}
