package state_test

import (
	"math"
	"math/rand"
	"reflect"
	"slices"
	"strings"
	"testing"
	"unsafe"

	"trellis/api"
	"trellis/state"
)

// answer: a state and a code, as Do and All answer them.
type answer struct {
	s    api.State
	code api.Errno
}

// check: what holds of every answer to actions l on the state s.
func (got answer) check(t *testing.T, want answer, s api.State, l []api.Act, m string) {
	t.Helper()
	switch {
	case got.code != want.code || !alike(got.s, want.s):
		t.Fatalf("6.4, 6.5: %+v on %+v, with %.99q: %+v, want %+v", l, s, m, got, want)
	case got.code == api.OK && !state.Shaped(got.s):
		t.Fatalf("6.9: %+v on %+v, with %.99q: %+v, which is not shaped", l, s, m, got)
	case got.code != api.OK && !reflect.DeepEqual(got.s, api.State{}):
		t.Fatalf("P4: %+v on %+v, with %.99q: %+v", l, s, m, got)
	}
}

// sameDo: 6.4 of a state, an action and matched bytes.
func sameDo(t *testing.T, s api.State, a api.Act, m string) (api.State, api.Errno) {
	t.Helper()
	var got, want answer
	want.s, want.code = plainDo(s, a, m)
	got.s, got.code = state.Do(s, a, m)
	got.check(t, want, s, []api.Act{a}, m)
	return got.s, got.code
}

// someStates: empty, ordinary and full ones, ones just below the limits, ones that are not shaped.
func someStates() []api.State {
	out := []api.State{state.Start(), sample(), full(), {}, {Pending: 65536}, {Pending: -2}, {Indents: []int{2, 2}}, {Queue: []string{""}}, {Frames: []api.Frame{{Mode: 16}}}}
	for _, pending := range []int{-1, 0, 1, 2, 3, 4, 5} {
		out = append(out, api.State{Indents: []int{2, 4}, Pending: pending}, api.State{Indents: []int{2}, Pending: pending})
	}
	near := full()
	near.Indents, near.Queue, near.Frames = near.Indents[:31], near.Queue[:7], near.Frames[:15]
	return append(out, near)
}

// 6.4: every kind with all kinds of numbers and matched bytes, in all kinds of states.
func TestDoAll(t *testing.T) {
	sixteen := strings.Repeat("d", 16)
	matched := []string{"", "x", "  ", "<<X", "\n", "X\n", "\nX", sixteen, sixteen + "d", "\n" + sixteen, sixteen[1:] + "\n", "\n\t", "x\n  ", "\n    "}
	numbers := []int{math.MinInt, -2, -1, 0, 1, 2, 3, 15, 16, 17, 64, 1 << 32, math.MaxInt}
	seen := map[api.Errno]int{}
	for _, s := range someStates() {
		for kind := api.ActKind(-1); kind < 13; kind++ {
			for _, n := range numbers {
				for _, m := range numbers {
					if kind != api.ActEnter && m != 0 {
						continue
					}
					for _, text := range matched {
						_, code := sameDo(t, s, api.Act{Kind: kind, N: n, M: m}, text)
						seen[code]++
					}
				}
			}
		}
	}
	for _, code := range []api.Errno{api.OK, api.ErrIndents, api.ErrQueue, api.ErrFrames, api.ErrDelim, api.ErrBlob, api.ErrAct} {
		if seen[code] == 0 {
			t.Errorf("nothing was answered with %d", code)
		}
	}
}

// 6.4: where several errors apply, the first one of the chapter's order.
func TestDoOrder(t *testing.T) {
	long := strings.Repeat("d", 17)
	broken := full()
	broken.Flags, broken.Pending = 0, 65537
	shallow := full()
	shallow.Pending = 3
	for _, c := range []struct {
		s       api.State
		a       api.Act
		matched string
		want    api.Errno
	}{
		{broken, api.Act{Kind: 99}, "", api.ErrBlob}, {broken, api.Act{Kind: api.ActIndent}, "", api.ErrBlob}, {broken, api.Act{Kind: api.ActMeasure}, strings.Repeat("\t", 9000), api.ErrBlob}, {broken, api.Act{Kind: api.ActSet, N: 16}, "", api.ErrBlob},
		{shallow, api.Act{Kind: api.ActIndent}, "", api.ErrAct}, {full(), api.Act{Kind: api.ActIndent}, "", api.ErrIndents},
		{full(), api.Act{Kind: api.ActEnqueue, N: -1}, long, api.ErrAct}, {full(), api.Act{Kind: api.ActEnqueue}, long, api.ErrDelim}, {full(), api.Act{Kind: api.ActEnqueue, N: 1}, long, api.ErrQueue},
		{full(), api.Act{Kind: api.ActEnter, N: -2}, long, api.ErrAct}, {full(), api.Act{Kind: api.ActEnter, M: 16}, long, api.ErrAct}, {full(), api.Act{Kind: api.ActEnter, M: -1}, long, api.ErrAct},
		{full(), api.Act{Kind: api.ActEnter}, long, api.ErrDelim}, {full(), api.Act{Kind: api.ActEnter, N: 1}, long, api.ErrFrames}, {full(), api.Act{Kind: api.ActEnter, N: -1}, long, api.ErrFrames},
	} {
		if _, code := sameDo(t, c.s, c.a, c.matched); code != c.want {
			t.Errorf("6.4: %+v of %q: %d, want %d", c.a, c.matched, code, c.want)
		}
	}
}

// 6.4: widths, told by hand and by the model.
func TestMeasure(t *testing.T) {
	blanks := strings.Repeat(" ", 65537)
	tabs := strings.Repeat("\t", 8193)
	for _, c := range []struct {
		matched string
		want    int // -1: the top indentation; -2: ErrWidth
	}{
		{"", 0}, {"\n", 0}, {" ", 1}, {"\t", 8}, {"       \t", 8}, {"        \t", 16}, {"\t\t", 16}, {" \t \t ", 17}, {"\t    ", 12}, {"12345678", 8}, {"é", 2}, {"\r", 1}, {"\x00\xff\v", 3},
		{"   \n\t\n ", 1}, {"   \n", 0}, {"\n\n  \n    ", -1}, {"abcd", -1}, {"  \n  ", 2},
		{blanks[:65535], 65535}, {blanks[:65536], 65536}, {blanks, -2}, {tabs[:8192], 65536}, {tabs, -2}, {tabs[:8192] + " ", -2}, {tabs[:8191] + "       \t", 65536}, {blanks[:65535] + "\t", 65536},
		{blanks + "\n ", 1}, {tabs + "\n" + tabs[:8192], 65536}, {" \n" + blanks, -2},
	} {
		got, code := sameDo(t, sample(), api.Act{Kind: api.ActMeasure}, c.matched)
		if c.want == -2 && code != api.ErrWidth || c.want > -2 && got.Pending != c.want {
			t.Errorf("6.4: the width of %.20q (%d bytes): %d, %d", c.matched, len(c.matched), got.Pending, code)
		}
	}
	if got, code := state.Do(state.Start(), api.Act{Kind: api.ActMeasure}, "x\n"); code != api.OK || got.Pending != -1 {
		t.Errorf("6.4: a width of 0 without an indentation: %+v, %d", got, code)
	}
	for _, long := range []string{strings.Repeat("\t", 1<<24), strings.Repeat("a", 1<<24)} {
		if _, code := state.Do(state.Start(), api.Act{Kind: api.ActMeasure}, long); code != api.ErrWidth {
			t.Errorf("6.4: the width of %d bytes: %d", len(long), code)
		}
		if got, code := state.Do(state.Start(), api.Act{Kind: api.ActMeasure}, long+"\n "); code != api.OK || got.Pending != 1 {
			t.Errorf("6.4: the width of the line behind %d bytes: %+v, %d", len(long), got, code)
		}
	}
}

// 6.4, 6.9: actions one behind the other from the start on, so that all limits are come to.
func TestDoWalks(t *testing.T) {
	r := rand.New(rand.NewSource(64))
	seen := map[api.Errno]int{}
	for walk := range 60 {
		s := state.Start()
		grow := walk%3 == 0
		for range 600 {
			a, m := randomAct(r), randomMatched(r)
			if grow && r.Intn(20) > 0 {
				a.Kind = []api.ActKind{api.ActMeasure, api.ActIndent, api.ActEnqueue, api.ActEnter, api.ActSet}[r.Intn(5)]
			}
			if grow && a.Kind == api.ActMeasure {
				m = strings.Repeat(" ", plainTop(s)+r.Intn(4))
			}
			next, code := sameDo(t, s, a, m)
			seen[code]++
			if code == api.OK {
				s = next
			}
		}
	}
	for _, code := range []api.Errno{api.OK, api.ErrIndents, api.ErrQueue, api.ErrFrames, api.ErrDelim, api.ErrWidth, api.ErrAct} {
		if seen[code] == 0 {
			t.Errorf("nothing was answered with %d: %v", code, seen)
		}
	}
}

// 6.5, 6.9: lists of actions in all kinds of states.
func TestAllRandom(t *testing.T) {
	r := rand.New(rand.NewSource(65))
	seen := map[api.Errno]int{}
	for range 20000 {
		s := randomState(r)
		if r.Intn(6) == 0 {
			s = oddState(r)
		}
		var l []api.Act
		for range r.Intn(6) {
			l = append(l, randomAct(r))
		}
		m := randomMatched(r)
		var got, want answer
		want.s, want.code = plainAll(s, l, m)
		got.s, got.code = state.All(s, l, m)
		got.check(t, want, s, l, m)
		seen[got.code]++
	}
	if seen[api.OK] < 2000 || seen[api.ErrAct] < 2000 || seen[api.ErrBlob] < 500 {
		t.Errorf("too few of a kind: %v", seen)
	}
}

func TestAllNone(t *testing.T) {
	for _, l := range [][]api.Act{nil, {}} {
		if s, code := state.All(sample(), l, "x"); code != api.OK || !alike(s, sample()) {
			t.Errorf("6.5: no actions: %+v, %d", s, code)
		}
		if s, code := state.All(api.State{Pending: -2}, l, "x"); code != api.ErrBlob || !reflect.DeepEqual(s, api.State{}) {
			t.Errorf("6.5: no actions on what is no state: %+v, %d", s, code)
		}
	}
	long := slices.Repeat([]api.Act{{Kind: api.ActEnqueue}, {Kind: api.ActDequeue}, {Kind: api.ActEnter}, {Kind: api.ActLeave}}, 1<<14)
	if s, code := state.All(state.Start(), long, "x"); code != api.OK || !alike(s, state.Start()) {
		t.Errorf("6.5: %d actions: %+v, %d", len(long), s, code)
	}
}

func done(t *testing.T, s api.State, kind api.ActKind, matched string) api.State {
	t.Helper()
	s, code := state.Do(s, api.Act{Kind: kind}, matched)
	if code != api.OK {
		t.Fatalf("an action of the kind %d is refused with %d", kind, code)
	}
	return s
}

// 6.10: all sets of indentations up to 7, all widths up to 9.
func TestLayout(t *testing.T) {
	for set := range 1 << 7 {
		s := sample()
		s.Indents = nil
		for w := 1; w <= 7; w++ {
			if set>>(w-1)&1 == 1 {
				s.Indents = append(s.Indents, w)
			}
		}
		for w := range 10 {
			layout(t, s, w)
		}
	}
}

func layout(t *testing.T, s api.State, w int) {
	t.Helper()
	var below []int
	above := 0
	for _, i := range s.Indents {
		if i <= w {
			below = append(below, i)
		} else {
			above++
		}
	}
	got := done(t, s, api.ActMeasure, "x\n"+strings.Repeat(" ", w))
	steps := 0
	for state.Holds(got, api.Test{Kind: api.TestShallower}, false) {
		got = done(t, got, api.ActDedent, "")
		steps++
	}
	pending := w
	if w == 0 || slices.Contains(below, w) {
		pending = -1
	}
	if steps != above || !slices.Equal(got.Indents, below) || got.Pending != pending || state.Holds(got, api.Test{Kind: api.TestDeeper}, false) != (pending >= 0) {
		t.Errorf("6.10: %v measured with %d: %v, pending %d, by %d", s.Indents, w, got.Indents, got.Pending, steps)
	}
}

// 6.11: what goes together, wherever the first of them can be done.
func TestPairs(t *testing.T) {
	r := rand.New(rand.NewSource(611))
	seen := map[api.ActKind]int{}
	for i := range 20000 {
		s, m, n := randomState(r), randomBytes(r, someBytes, 18), r.Intn(18)-1
		pairs := [][2]api.Act{
			{{Kind: api.ActIndent}, {Kind: api.ActDrop}}, {{Kind: api.ActEnter, N: n, M: r.Intn(16)}, {Kind: api.ActLeave}}, {{Kind: api.ActEnqueue, N: n}, {Kind: api.ActDequeue}},
			{{Kind: api.ActSet, N: n}, {Kind: api.ActClear, N: n}}, {{Kind: api.ActSet, N: n}, {Kind: api.ActSet, N: n}}, {{Kind: api.ActClear, N: n}, {Kind: api.ActClear, N: n}},
		}
		p := pairs[i%len(pairs)]
		if p[0].Kind == api.ActEnqueue {
			s.Queue = nil
		}
		once, code := state.Do(s, p[0], m)
		if code != api.OK {
			continue
		}
		seen[p[0].Kind]++
		want := clone(s)
		switch {
		case p[0].Kind == api.ActIndent:
			want.Pending = -1
		case p[0] == p[1]:
			want = once
		case p[0].Kind == api.ActSet:
			want.Flags &= ^(1 << n)
		}
		if got, code := state.All(s, p[:], m); code != api.OK || !state.Same(got, want) {
			t.Fatalf("6.11: %+v on %+v, with %q: %+v, %d", p, s, m, got, code)
		}
	}
	for _, kind := range []api.ActKind{api.ActIndent, api.ActEnter, api.ActEnqueue, api.ActSet, api.ActClear} {
		if seen[kind] < 300 {
			t.Errorf("too few of a kind: %v", seen)
		}
	}
}

// roomy: the state with spare room behind each list, and something written there.
func roomy(s api.State) api.State {
	s.Indents = append(append([]int(nil), s.Indents...), 71, 72)[:len(s.Indents)]
	s.Queue = append(append([]string(nil), s.Queue...), "spare", "room")[:len(s.Queue)]
	s.Frames = append(append([]api.Frame(nil), s.Frames...), api.Frame{Mode: 7}, api.Frame{Mode: 8})[:len(s.Frames)]
	return s
}

// rooms: all that stands in a state's lists, spare room too.
func rooms(s api.State) api.State {
	s.Indents = slices.Clone(s.Indents[:cap(s.Indents)])
	s.Queue = slices.Clone(s.Queue[:cap(s.Queue)])
	s.Frames = slices.Clone(s.Frames[:cap(s.Frames)])
	return s
}

// scribble writes into all of a state's lists, and into their spare room.
func scribble(s api.State) {
	for i := range s.Indents[:cap(s.Indents)] {
		s.Indents[:cap(s.Indents)][i] = 99999
	}
	for i := range s.Queue[:cap(s.Queue)] {
		s.Queue[:cap(s.Queue)][i] = "scribbled"
	}
	for i := range s.Frames[:cap(s.Frames)] {
		s.Frames[:cap(s.Frames)][i] = api.Frame{Mode: 99999, Delim: "scribbled"}
	}
}

// P2, P3: what is handed in is not changed and not kept, what is handed out is new memory.
func TestActMemory(t *testing.T) {
	r := rand.New(rand.NewSource(66))
	for range 3000 {
		s := roomy(randomState(r))
		acts := append(make([]api.Act, 0, 8), randomAct(r), randomAct(r))[:r.Intn(3)]
		m := randomMatched(r)
		before, actsBefore := rooms(s), slices.Clone(acts[:cap(acts)])
		want, code := plainAll(s, acts, m)
		first, c := state.All(s, acts, m)
		second, _ := state.All(s, acts, m)
		if !reflect.DeepEqual(rooms(s), before) || !reflect.DeepEqual(acts[:cap(acts)], actsBefore) {
			t.Fatalf("P2: %+v changes what was handed in", acts)
		}
		if c != code || !reflect.DeepEqual(first, second) {
			t.Fatalf("P3: %+v twice: %+v, %+v", acts, first, second)
		}
		scribble(first)
		if !reflect.DeepEqual(rooms(s), before) {
			t.Fatalf("P2: what %+v answers shares memory with what was handed in", acts)
		}
		scribble(s)
		clear(acts[:cap(acts)])
		if code == api.OK && !alike(second, want) {
			t.Fatalf("P2: what %+v answers hangs on other memory", actsBefore)
		}
	}
}

// apart: P2: no delimiter of the state is a piece of the text, which it would keep.
func apart(t *testing.T, text string, s api.State) {
	t.Helper()
	from := uintptr(unsafe.Pointer(unsafe.StringData(text)))
	delims := slices.Clone(s.Queue)
	for _, f := range s.Frames {
		delims = append(delims, f.Delim)
	}
	for _, d := range delims {
		if at := uintptr(unsafe.Pointer(unsafe.StringData(d))); d != "" && from <= at && at < from+uintptr(len(text)) {
			t.Errorf("P2: the delimiter %q is a piece of %.20q", d, text)
		}
	}
}

// P2: delimiters are not kept as pieces of what was handed in.
func TestDelimMemory(t *testing.T) {
	m := strings.Repeat(" ", 1<<10) + "END"
	s, code := state.All(state.Start(), []api.Act{{Kind: api.ActEnqueue, N: 1 << 10}, {Kind: api.ActEnter, N: 1 << 10}}, m)
	if code != api.OK || !alike(s, api.State{Pending: -1, Queue: []string{"END"}, Frames: []api.Frame{{Delim: "END"}}}) {
		t.Fatalf("6.5: %+v, %d", s, code)
	}
	apart(t, m, s)
	text := "QUEUE FRAME"
	old := api.State{Queue: []string{text[:5]}, Frames: []api.Frame{{Delim: text[6:]}}}
	next, _ := state.Do(old, api.Act{Kind: api.ActSet}, "")
	apart(t, text, next)
}
