package regex_test

import (
	"math"
	"math/rand"
	"slices"
	"strings"
	"testing"
	"unsafe"

	"trellis/api"
	"trellis/regex"
)

// whole: the nodes ahead of end that belong to the node just ahead of it, by the table of the trees; false: it is not well shaped. It returns where they begin.
func whole(re []api.ReNode, end int) (int, bool) {
	if end <= 0 {
		return 0, false
	}
	i := end - 1
	n := re[i]
	some := n.Set != api.Class{}
	switch n.Op {
	case api.ReClass:
		return i, some && n.A == -1 && n.B == -1
	case api.ReEmpty:
		return i, !some && n.A == -1 && n.B == -1
	case api.ReStar, api.RePlus, api.ReOpt:
		from, ok := whole(re, i)
		return from, ok && !some && n.A == i-1 && n.B == -1
	case api.ReCat, api.ReAlt:
		mid, ok := whole(re, i)
		if !ok {
			return 0, false
		}
		from, ok := whole(re, mid)
		return from, ok && !some && n.B == i-1 && n.A == mid-1
	}
	return 0, false
}

func shaped(re []api.ReNode) bool {
	from, ok := whole(re, len(re))
	return ok && from == 0 && len(re) <= api.MaxRegex
}

// sameShape: 4.2 and 4.3 of a list that may be well shaped or not; P4.
func sameShape(t *testing.T, re []api.ReNode) {
	t.Helper()
	want := shaped(re)
	if regex.Shaped(re) != want {
		t.Fatalf("4.3: Shaped(%v) = %v", re, !want)
	}
	if want {
		return
	}
	if text, code := regex.Print(re); text != "" || code != api.ErrShape {
		t.Fatalf("4.2: Print(%v) = %q, %d", re, text, code)
	}
	for _, s := range []string{"", "a"} {
		b, o := regex.Begins(re, s)
		if regex.Matches(re, s) || regex.Nullable(re) || b || o {
			t.Fatalf("4.3: %v is not well shaped, but matches, begins or may be nothing with %q", re, s)
		}
	}
}

// 4.3: all short lists of nodes, right ones and wrong ones.
func TestShapedAll(t *testing.T) {
	var nodes []api.ReNode
	for op := api.ReOp(0); op <= 8; op++ {
		for a := -2; a <= 2; a++ {
			for b := -2; b <= 2; b++ {
				nodes = append(nodes, node(op, a, b), api.ReNode{Op: op, Set: set("a"), A: a, B: b})
			}
		}
	}
	sameShape(t, nil)
	sameShape(t, []api.ReNode{})
	for _, n := range nodes {
		sameShape(t, []api.ReNode{n})
		sameShape(t, []api.ReNode{leaf("a"), n})
		for _, m := range nodes {
			sameShape(t, []api.ReNode{leaf("a"), n, m})
		}
	}
	for n, trees := range treesOf(6, leaf("\xff"), empty()) {
		for _, re := range trees {
			if !regex.Shaped(re) {
				t.Fatalf("4.3: a tree of %d nodes is not well shaped: %v", n, re)
			}
		}
	}
}

// 4.3: trees with one thing changed, and numbers of all sizes.
func TestShapedChanged(t *testing.T) {
	r := rand.New(rand.NewSource(46))
	numbers := []int{math.MinInt, math.MinInt + 1, -2, -1, 0, 1, 127, 128, math.MaxInt - 1, math.MaxInt}
	for range 20000 {
		re := randomTree(r, 1+r.Intn(12), func() api.ReNode { return randomClass(r) })
		i := r.Intn(len(re))
		switch r.Intn(6) {
		case 0:
			re[i].A = numbers[r.Intn(len(numbers))]
		case 1:
			re[i].B = numbers[r.Intn(len(numbers))]
		case 2:
			re[i].A += 1 - 2*r.Intn(2)
		case 3:
			re[i].Op = api.ReOp(numbers[r.Intn(len(numbers))])
		case 4:
			re[i].Set = []api.Class{{}, {1}, {0, 0, 0, 1 << 63}}[r.Intn(3)]
		case 5:
			re = slices.Delete(re, i, i+1)
		}
		sameShape(t, re)
	}
}

// 4.3: as many nodes as there may be, and one more.
func TestShapedLimits(t *testing.T) {
	re := []api.ReNode{leaf("a")}
	for len(re) < api.MaxRegex {
		re = one(api.ReStar, re)
	}
	if !regex.Shaped(re) || !regex.Nullable(re) || !regex.Matches(re, "aa") {
		t.Errorf("4.3: %d nodes are not well shaped", len(re))
	}
	sameShape(t, one(api.ReStar, re))
	sameShape(t, slices.Repeat(re, 3))
	row := []api.ReNode{leaf("a")}
	for len(row) < api.MaxRegex-2 {
		row = two(api.ReCat, row, []api.ReNode{leaf("a")})
	}
	if !regex.Shaped(row) {
		t.Errorf("4.3: %d nodes are not well shaped", len(row))
	}
	sameShape(t, two(api.ReCat, row, []api.ReNode{leaf("a"), node(api.ReStar, 0, -1)}))
	sameShape(t, two(api.ReAlt, row, row))
}

// P1: any bytes as texts, any lists as trees.
func TestAnything(t *testing.T) {
	r := rand.New(rand.NewSource(47))
	for range 20000 {
		text := make([]byte, r.Intn(12))
		for i := range text {
			text[i] = byte(r.Intn(256))
		}
		sameError(t, string(text))
		re := make([]api.ReNode, r.Intn(5))
		for i := range re {
			re[i] = api.ReNode{Op: api.ReOp(r.Intn(10) - 1), A: r.Intn(7) - 2, B: r.Intn(7) - 2}
			if r.Intn(2) == 0 {
				re[i].Set = set("a")
			}
		}
		sameShape(t, re)
	}
}

// P2: what is handed in is not changed, its spare room too; what is handed out is new.
func TestMemory(t *testing.T) {
	room := append(taken(t, "(a|b)*[c-e]+"), leaf("z"), leaf("y"))
	before := slices.Clone(room)
	re := room[:len(room)-2]
	regex.Shaped(re)
	regex.Nullable(re)
	regex.Matches(re, "abc")
	regex.Begins(re, "abc")
	first, _ := regex.Print(re)
	second, _ := regex.Print(re)
	if !slices.Equal(room, before) {
		t.Error("P2: a tree that was handed in is changed")
	}
	if unsafe.StringData(first) == unsafe.StringData(second) {
		t.Error("P2: two texts of one tree share memory")
	}
	one, two := taken(t, "ab|c"), taken(t, "ab|c")
	keep := slices.Clone(one)
	for i := range two[:cap(two)] {
		two[:cap(two)][i] = api.ReNode{}
	}
	if !slices.Equal(one, keep) {
		t.Error("P2: two trees of one text share memory")
	}
	text := []byte("a|b")
	got := taken(t, unsafe.String(&text[0], len(text)))
	copy(text, "xyz")
	if !slices.Equal(got, taken(t, "a|b")) {
		t.Error("P2: a tree hangs on the memory of its text")
	}
}

// P3: a refusal leaves nothing behind for the next call.
func TestNothingKept(t *testing.T) {
	want := taken(t, "(a|b)*c")
	for _, text := range []string{"((((", "[b-a]", strings.Repeat("a", 65), strings.Repeat("(", 129), ""} {
		regex.Parse(text)
		if re := taken(t, "(a|b)*c"); !slices.Equal(re, want) {
			t.Errorf("P3: behind Parse(%q) the tree is %v", text, re)
		}
	}
}
