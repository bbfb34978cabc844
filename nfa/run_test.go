package nfa_test

import (
	"math"
	"math/rand"
	"slices"
	"strings"
	"testing"

	"trellis/api"
	"trellis/nfa"
)

func example() api.Nfa {
	return api.Nfa{On: []api.Class{class("a"), class("b"), {}}, To: []int{1, 2, 0}, Free: [][]int{nil, {0}, nil}, Start: 0, End: 2}
}

func TestExamples(t *testing.T) {
	n := example()
	for s, want := range map[string]bool{"ab": true, "aab": true, "a": false, "": false, "ba": false} {
		if nfa.Accepts(n, s) != want {
			t.Errorf("5.2: Accepts(%q) = %v", s, !want)
		}
	}
	lost := example()
	lost.End = 7
	if nfa.Accepts(lost, "ab") {
		t.Error("5.2: a machine whose end is no state takes ab")
	}
	for _, c := range []struct {
		n            api.Nfa
		text         string
		at, end, far int
	}{
		{n, "xaabz", 1, 4, 4}, {n, "xaabz", 0, -1, 1}, {n, "xaabz", 4, -1, 5}, {n, "xaabz", 5, -1, 6},
		{n, "aa", 0, -1, 3}, {lost, "ab", 0, -1, 0}, {lost, "ab", 2, -1, 2}, {n, "", 0, -1, 1},
		{n, "xaabz", -1, -1, 0}, {n, "xaabz", 6, -1, 0}, {n, "", 1, -1, 0},
		{n, "xaabz", math.MinInt, -1, 0}, {n, "xaabz", math.MaxInt, -1, 0},
	} {
		if e, f := nfa.Run(c.n, c.text, c.at); e != c.end || f != c.far {
			t.Errorf("5.3: Run(%q, %d) = %d, %d, want %d, %d", c.text, c.at, e, f, c.end, c.far)
		}
	}
}

// 5.2, 5.3: all machines of two states.
func TestAllSmall(t *testing.T) {
	classes := []api.Class{{}, class("a"), class("b"), class("ab")}
	frees := [][]int{nil, {0}, {1}, {1, 0}}
	for i := range 1 << 14 {
		digit := func(place int) int { return i >> (2 * place) & 3 }
		n := api.Nfa{
			On:    []api.Class{classes[digit(0)], classes[digit(1)]},
			To:    []int{digit(2) - 1, digit(3) - 1},
			Free:  [][]int{frees[digit(4)], frees[digit(5)]},
			Start: digit(6) & 1,
			End:   digit(6) >> 1,
		}
		agrees(t, n, "ab", 2)
	}
}

// 5.2, 5.3, P1: machines of any kind.
func TestRandom(t *testing.T) {
	r := rand.New(rand.NewSource(51))
	for range 20000 {
		agrees(t, randomMachine(r, "a\xff"), "a\xff", 3)
	}
}

// 5.3: every byte is one of its own.
func TestBytes(t *testing.T) {
	for b := range 256 {
		one := string([]byte{byte(b)})
		n := api.Nfa{On: []api.Class{class(one), {}}, To: []int{1}, Start: 0, End: 1}
		for c := range 256 {
			end, far := -1, 2
			if c == b {
				end = 2
			}
			if e, f := nfa.Run(n, "x"+string([]byte{byte(c)}), 1); e != end || f != far {
				t.Fatalf("5.3: a machine of the byte %d at the byte %d: %d, %d", b, c, e, f)
			}
		}
	}
}

// 5.4: what stands ahead of the place, and behind what has been looked at, does not count.
func TestWhatIsLookedAtDecides(t *testing.T) {
	r := rand.New(rand.NewSource(52))
	bytes := func(n int) string {
		b := make([]byte, n)
		for i := range b {
			b[i] = "aaa\xff\xffb"[r.Intn(6)]
		}
		return string(b)
	}
	for range 20000 {
		n := randomMachine(r, "a\xff")
		text := bytes(r.Intn(10))
		at := r.Intn(len(text) + 1)
		end, far := nfa.Run(n, text, at)
		if end > far || end != -1 && end < at || far < at || far > len(text)+1 {
			t.Fatalf("5.4: Run(%+v, %q, %d) = %d, %d", n, text, at, end, far)
		}
		for range 4 {
			other := bytes(at) + text[at:]
			if far <= len(text) {
				other = other[:far] + bytes(r.Intn(4))
			}
			if e, f := nfa.Run(n, other, at); e != end || f != far {
				t.Fatalf("5.4: Run(%+v, %q, %d) = %d, %d, but with %q %d, %d", n, text, at, end, far, other, e, f)
			}
		}
	}
}

// row: a machine of as many states, gone through one behind the other in that order; the bytes stand where order is even, the others go freely.
func row(order []int, on api.Class) api.Nfa {
	all := len(order)
	n := api.Nfa{On: make([]api.Class, all), To: make([]int, all), Free: make([][]int, all), Start: order[0], End: order[all-1]}
	for i, q := range order[:all-1] {
		if i%2 == 0 {
			n.On[q], n.To[q] = on, order[i+1]
		} else {
			n.Free[q] = []int{order[i+1]}
		}
	}
	return n
}

// Machines of many states, however they are numbered: the calls end.
func TestLargeRows(t *testing.T) {
	const all = 100001
	up := make([]int, all)
	for i := range up {
		up[i] = i
	}
	down := slices.Clone(up)
	slices.Reverse(down)
	mixed := rand.New(rand.NewSource(53)).Perm(all)
	for _, order := range [][]int{up, down, mixed} {
		n := row(order, class("a"))
		short, long := "aaa", strings.Repeat("a", all/2)
		if e, f := nfa.Run(n, short, 0); e != -1 || f != 4 {
			t.Errorf("5.3: a row of states, at its beginning: %d, %d", e, f)
		}
		if e, f := nfa.Run(n, long+"a", 0); e != all/2 || f != all/2 || !nfa.Accepts(n, long) {
			t.Errorf("5.3: a row of states, whole: %d, %d", e, f)
		}
		n.On[order[all-3]] = api.Class{}
		if e, f := nfa.Run(n, short, 1); e != -1 || f != 1 {
			t.Errorf("5.3: a row of states with a gap: %d, %d", e, f)
		}
	}
}

// Free goings in rings, and from every state to every other.
func TestLargeRings(t *testing.T) {
	const all = 100000
	n := api.Nfa{On: make([]api.Class, all), To: make([]int, all), Free: make([][]int, all), Start: 7, End: 3}
	for q := range all {
		n.Free[q] = []int{(q + all - 1) % all}
	}
	n.On[all/2], n.To[all/2] = class("a"), all-1
	if e, f := nfa.Run(n, "aaab", 0); e != 3 || f != 4 {
		t.Errorf("5.3: a ring of free goings: %d, %d", e, f)
	}
	const few = 700
	n = api.Nfa{On: make([]api.Class, few), To: make([]int, few), Free: make([][]int, few), Start: few - 1, End: 0}
	for q := range few {
		n.On[q], n.To[q] = class("ab"), few-1-q
		for r := range few {
			n.Free[q] = append(n.Free[q], r)
		}
	}
	if e, f := nfa.Run(n, "abbaabbac", 0); e != 8 || f != 9 {
		t.Errorf("5.3: free goings from all to all: %d, %d", e, f)
	}
}

// P2: a machine that is handed in is not changed, its spare room too.
func TestMachineUnchanged(t *testing.T) {
	on := []api.Class{class("a"), class("b"), {}, class("z")}
	to := []int{1, 2, 0, 77}
	inner := []int{0, 78}
	free := [][]int{nil, inner[:1], nil, {79}}
	n := api.Nfa{On: on[:3], To: to[:3], Free: free[:3], Start: 0, End: 2}
	nfa.Run(n, "xaabz", 1)
	nfa.Accepts(n, "aab")
	if !slices.Equal(on, []api.Class{class("a"), class("b"), {}, class("z")}) || !slices.Equal(to, []int{1, 2, 0, 77}) {
		t.Error("P2: the states' bytes, or where they go, are changed")
	}
	if !slices.Equal(inner, []int{0, 78}) || free[0] != nil || free[2] != nil || !slices.Equal(free[3], []int{79}) || !slices.Equal(free[1], []int{0}) {
		t.Error("P2: the states' free goings are changed")
	}
}
