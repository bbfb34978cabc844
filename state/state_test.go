package state_test

import (
	"math"
	"math/rand"
	"strings"
	"testing"

	"trellis/api"
	"trellis/state"
)

func TestStart(t *testing.T) {
	if s := state.Start(); !alike(s, api.State{Pending: -1}) || !state.Shaped(s) {
		t.Errorf("6.1, 6.9: Start() = %+v", s)
	}
}

// 6.2: each limit, and just beyond it.
func TestShapedLimits(t *testing.T) {
	rising := func(n int) []int {
		var l []int
		for i := range n {
			l = append(l, i+1)
		}
		return l
	}
	long := strings.Repeat("d", 17)
	for _, c := range []struct {
		s    api.State
		want bool
	}{
		{api.State{}, true}, {full(), true}, {sample(), true},
		{api.State{Pending: -1}, true}, {api.State{Pending: -2}, false}, {api.State{Pending: 65536}, true}, {api.State{Pending: 65537}, false},
		{api.State{Indents: []int{}}, true}, {api.State{Indents: []int{1}}, true}, {api.State{Indents: []int{0}}, false}, {api.State{Indents: []int{-1}}, false},
		{api.State{Indents: []int{65536}}, true}, {api.State{Indents: []int{65537}}, false}, {api.State{Indents: []int{1, 2}}, true}, {api.State{Indents: []int{2, 2}}, false}, {api.State{Indents: []int{3, 2}}, false},
		{api.State{Indents: rising(32)}, true}, {api.State{Indents: rising(33)}, false}, {api.State{Indents: []int{4}, Pending: 4}, true},
		{api.State{Queue: []string{"x"}}, true}, {api.State{Queue: []string{""}}, false}, {api.State{Queue: []string{"x", ""}}, false}, {api.State{Queue: []string{"x", "x"}}, true},
		{api.State{Queue: []string{long[:16]}}, true}, {api.State{Queue: []string{long}}, false}, {api.State{Queue: []string{"\n"}}, false}, {api.State{Queue: []string{"a\nb"}}, false}, {api.State{Queue: []string{"\r\x00\xff"}}, true},
		{api.State{Queue: strings.Split("qqqqqqqq", "")}, true}, {api.State{Queue: strings.Split("qqqqqqqqq", "")}, false},
		{api.State{Frames: []api.Frame{{}}}, true}, {api.State{Frames: []api.Frame{{Mode: 15}}}, true}, {api.State{Frames: []api.Frame{{Mode: 16}}}, false}, {api.State{Frames: []api.Frame{{Mode: -1}}}, false},
		{api.State{Frames: []api.Frame{{Delim: "\n\x00" + long[:14]}}}, true}, {api.State{Frames: []api.Frame{{Delim: long}}}, false},
		{api.State{Frames: make([]api.Frame, 16)}, true}, {api.State{Frames: make([]api.Frame, 17)}, false},
		{api.State{Flags: math.MaxUint16}, true},
	} {
		if got := state.Shaped(c.s); got != c.want {
			t.Errorf("6.2: Shaped(%+v) = %v", c.s, got)
		}
	}
}

func TestShapedRandom(t *testing.T) {
	r := rand.New(rand.NewSource(61))
	seen := map[bool]int{}
	for i := range 20000 {
		s := randomState(r)
		if i%2 == 0 {
			s = oddState(r)
		}
		want := plainShaped(s)
		seen[want]++
		if state.Shaped(s) != want {
			t.Fatalf("6.2: Shaped(%+v) = %v", s, !want)
		}
	}
	if seen[true] < 3000 || seen[false] < 3000 {
		t.Errorf("shaped or not: %v", seen)
	}
}

// 6.2: states that differ in one thing are not the same, shaped or not.
func TestSame(t *testing.T) {
	odd := api.State{Indents: []int{-5, math.MaxInt}, Pending: math.MinInt, Queue: []string{"", "\n"}, Frames: []api.Frame{{Mode: -7, Delim: strings.Repeat("x", 99)}}, Flags: 3}
	turns := []func(*api.State){
		func(s *api.State) { s.Indents = append(s.Indents, 9) },
		func(s *api.State) { s.Indents = s.Indents[1:] },
		func(s *api.State) { s.Indents[1]++ },
		func(s *api.State) { s.Indents[0], s.Indents[1] = s.Indents[1], s.Indents[0] },
		func(s *api.State) { s.Pending++ },
		func(s *api.State) { s.Queue = nil },
		func(s *api.State) { s.Queue = append(s.Queue, "EOF") },
		func(s *api.State) { s.Queue[0] += "x" },
		func(s *api.State) { s.Frames = nil },
		func(s *api.State) { s.Frames = append(s.Frames, api.Frame{}) },
		func(s *api.State) { s.Frames[0].Mode++ },
		func(s *api.State) { s.Frames[0].Delim = "\"" },
		func(s *api.State) { s.Flags ^= 1 << 15 },
	}
	for _, s := range []api.State{sample(), odd} {
		if !state.Same(s, clone(s)) {
			t.Errorf("6.2: %+v is not the same as itself", s)
		}
		for i, turn := range turns {
			other := clone(s)
			turn(&other)
			if state.Same(s, other) || state.Same(other, s) {
				t.Errorf("6.2: the same, change %d: %+v, %+v", i, s, other)
			}
		}
	}
	empty := api.State{Indents: []int{}, Pending: -1, Queue: []string{}, Frames: []api.Frame{}}
	if !state.Same(empty, state.Start()) || !state.Same(state.Start(), empty) {
		t.Error("6.2: lists that are empty and lists that are nil")
	}
}

func TestSameRandom(t *testing.T) {
	r := rand.New(rand.NewSource(62))
	for range 5000 {
		a, b := oddState(r), oddState(r)
		if r.Intn(2) == 0 { // alike in all but one thing
			c := clone(a)
			switch r.Intn(5) {
			case 0:
				c.Indents = b.Indents
			case 1:
				c.Pending = b.Pending
			case 2:
				c.Queue = b.Queue
			case 3:
				c.Frames = b.Frames
			case 4:
				c.Flags = b.Flags
			}
			b = c
		}
		if got := state.Same(a, b); got != alike(a, b) {
			t.Fatalf("6.2: Same(%+v, %+v) = %v", a, b, got)
		}
	}
}

// 6.3: every kind, flags in and out of bounds, states shaped or not.
func TestHolds(t *testing.T) {
	numbers := []int{math.MinInt, -64, -1, 0, 1, 7, 8, 14, 15, 16, 17, 63, 64, 256, math.MaxInt}
	held := map[api.TestKind]int{}
	check := func(s api.State) {
		for kind := api.TestKind(-2); kind < 12; kind++ {
			for _, n := range numbers {
				test := api.Test{Kind: kind, N: n}
				for _, ended := range []bool{false, true} {
					want := plainHolds(s, test, ended)
					if want {
						held[kind]++
					}
					if state.Holds(s, test, ended) != want {
						t.Fatalf("6.3: Holds(%+v, %+v, %v) = %v", s, test, ended, !want)
					}
				}
			}
		}
	}
	for _, indents := range [][]int{nil, {}, {2}, {2, 4}, {4, 2}, {0}, {-3}, {math.MaxInt}, {math.MinInt}} {
		for _, pending := range []int{math.MinInt, -4, -2, -1, 0, 1, 2, 3, 4, 5, 1 << 40, math.MaxInt} {
			check(api.State{Indents: indents, Pending: pending, Flags: 1<<15 + 1<<8 + 1})
		}
	}
	for _, queue := range [][]string{{}, {"x"}, {""}, make([]string, 99)} {
		check(api.State{Queue: queue, Flags: math.MaxUint16 - 1<<7})
	}
	check(full())
	for kind := api.TestDeeper; kind <= api.TestIndented; kind++ {
		if held[kind] == 0 {
			t.Errorf("the test %d never held", kind)
		}
	}
	for _, kind := range []int{math.MinInt, 0, 9, math.MaxInt} {
		if state.Holds(sample(), api.Test{Kind: api.TestKind(kind)}, true) {
			t.Errorf("6.3: a test of the kind %d holds", kind)
		}
	}
}

func TestExamples(t *testing.T) {
	s := sample()
	for _, c := range []struct {
		test api.Test
		want bool
	}{
		{api.Test{Kind: api.TestDeeper}, false}, {api.Test{Kind: api.TestShallower}, true}, {api.Test{Kind: api.TestQueued}, true}, {api.Test{Kind: api.TestFlag, N: 8}, true}, {api.Test{Kind: api.TestFlag, N: 3}, false},
	} {
		if state.Holds(s, c.test, false) != c.want {
			t.Errorf("6.3: Holds of %+v is not %v", c.test, c.want)
		}
	}
	for _, c := range []struct {
		acts    []api.Act
		matched string
		want    func(*api.State)
		code    api.Errno
	}{
		{[]api.Act{{Kind: api.ActDedent}}, "", func(s *api.State) { s.Indents = []int{2} }, api.OK},
		{[]api.Act{{Kind: api.ActDedent}, {Kind: api.ActIndent}}, "", func(s *api.State) { s.Indents, s.Pending = []int{2, 3}, -1 }, api.OK},
		{[]api.Act{{Kind: api.ActIndent}}, "", nil, api.ErrAct},
		{[]api.Act{{Kind: api.ActMeasure}}, "\n\t", func(s *api.State) { s.Pending = 8 }, api.OK},
		{[]api.Act{{Kind: api.ActMeasure}}, "  x  ", func(s *api.State) { s.Pending = 5 }, api.OK},
		{[]api.Act{{Kind: api.ActMeasure}}, "\n    ", func(s *api.State) { s.Pending = -1 }, api.OK},
		{[]api.Act{{Kind: api.ActEnqueue, N: 2}}, "<<X", func(s *api.State) { s.Queue = []string{"EOF", "X"} }, api.OK},
		{[]api.Act{{Kind: api.ActEnqueue, N: 3}}, "<<X", nil, api.ErrDelim},
		{[]api.Act{{Kind: api.ActEnter, N: 0, M: 2}}, "``", func(s *api.State) { s.Frames = append(s.Frames, api.Frame{Mode: 2, Delim: "``"}) }, api.OK},
		{[]api.Act{{Kind: api.ActEnter, N: -1, M: 2}}, "``", func(s *api.State) { s.Frames = append(s.Frames, api.Frame{Mode: 2}) }, api.OK},
		{[]api.Act{{Kind: api.ActSet, N: 16}}, "", nil, api.ErrAct},
		{[]api.Act{{Kind: 11}}, "", nil, api.ErrAct},
	} {
		var want api.State
		if c.want != nil {
			want = sample()
			c.want(&want)
		}
		if got, code := state.All(s, c.acts, c.matched); code != c.code || !alike(got, want) {
			t.Errorf("6.4, 6.5: %+v of %q: %+v, %d", c.acts, c.matched, got, code)
		}
	}
}
