package rope

import (
	"math/rand"
	"strings"
	"testing"

	"trellis/api"
)

// checkTree: what the comment on tree says of every tree.
func checkTree(t *testing.T, x tree) {
	t.Helper()
	if l, ok := x.(leaf); ok {
		if len(l) == 0 || len(l) > maxChunk {
			t.Fatalf("a chunk of %d bytes", len(l))
		}
		return
	}
	b := x.(*branch)
	checkTree(t, b.left)
	checkTree(t, b.right)
	low, high := b.left.levels(), b.right.levels()
	if low > high {
		low, high = high, low
	}
	if high-low > 1 || b.height != high+1 || b.length != b.left.size()+b.right.size() {
		t.Fatalf("a branch of %d bytes, %d levels over %d and %d", b.length, b.height, low, high)
	}
}

func leaves(x tree) int {
	a, b := parts(x)
	if b.size() == 0 {
		return 1
	}
	return leaves(a) + leaves(b)
}

func TestTreeStaysBalanced(t *testing.T) {
	random := rand.New(rand.NewSource(1))
	r := New(strings.Repeat("x", 50000))
	for range 5000 {
		e := api.Edit{At: random.Intn(r.Len() + 1)}
		switch random.Intn(3) {
		case 0:
			e.Del = random.Intn(4000)
		case 1:
			e.Ins = strings.Repeat("y", random.Intn(4000))
		case 2:
			e.Del, e.Ins = random.Intn(50), strings.Repeat("z", random.Intn(50))
		}
		s, code := r.Splice(e)
		if code != api.OK {
			t.Fatal(code)
		}
		if r = s; r.Len() > 0 {
			checkTree(t, r.root)
		}
	}
}

func TestJoinOfAllHeights(t *testing.T) {
	for a := range 12 {
		for b := range 12 {
			x, y := build(strings.Repeat("x", maxChunk<<a>>2)), build(strings.Repeat("y", maxChunk<<b>>2))
			z := join(x, y)
			checkTree(t, z)
			if most := 1 + max(x.levels(), y.levels()); z.levels() > most || z.size() != x.size()+y.size() {
				t.Fatalf("%d and %d levels: %d", x.levels(), y.levels(), z.levels())
			}
		}
	}
}

// TestSmallEditsMakeFewChunks: else a text that is typed would be all chunks of a byte.
func TestSmallEditsMakeFewChunks(t *testing.T) {
	r := New("")
	for i := range 20000 {
		r, _ = r.Splice(api.Edit{At: r.Len() * (i % 5) / 4, Ins: "ab"})
	}
	for i := range 10000 {
		r, _ = r.Splice(api.Edit{At: i * 2, Del: 1})
	}
	if n := leaves(r.root); n > 4*r.Len()/maxChunk {
		t.Fatalf("%d chunks of %d bytes", n, r.Len())
	}
}

// TestChunksAreShared: an edit makes new trees only along its way down.
func TestChunksAreShared(t *testing.T) {
	const size = api.MaxText / 2
	r := New(strings.Repeat("x", size))
	old := map[tree]int{}
	var gather func(x tree)
	gather = func(x tree) {
		if b, ok := x.(*branch); ok {
			old[b]++
			gather(b.left)
			gather(b.right)
		}
	}
	gather(r.root)
	for _, e := range []api.Edit{{Ins: "y"}, {At: size / 3, Del: 1}, {At: 2 * maxChunk, Del: size / 2, Ins: "y"}, {At: size, Ins: "y"}} {
		s, _ := r.Splice(e)
		fresh := 0
		var count func(x tree)
		count = func(x tree) {
			if b, ok := x.(*branch); ok && old[b] == 0 {
				fresh++
				count(b.left)
				count(b.right)
			}
		}
		count(s.root)
		if fresh > 4*r.Depth() {
			t.Errorf("Splice(%d, %d) made %d branches", e.At, e.Del, fresh)
		}
	}
}
