package scan_test

import (
	"math"
	"math/rand"
	"reflect"
	"slices"
	"strings"
	"testing"
	"unsafe"

	"trellis/api"
	"trellis/scan"
	"trellis/state"
)

// The chapter's table.
func TestExamples(t *testing.T) {
	start, pending := state.Start(), api.State{Pending: 2}
	for _, c := range []struct {
		text  string
		at    int
		s     api.State
		valid api.Terms
		want  api.Step
	}{
		{"if x", 0, start, terms(1, 2), api.Step{Term: 1, To: 2, Look: 3, After: start}},
		{"ifx", 0, start, terms(1, 2), api.Step{Term: 2, To: 3, Look: 4, Rule: 1, After: start}},
		{"ifx", 0, start, terms(1), api.Step{Term: 1, To: 2, Look: 2, After: start}},
		{"if x", 2, start, terms(1, 2), api.Step{Term: 2, From: 3, To: 4, Look: 5, Rule: 1, After: start}},
		{"  ", 0, start, terms(2), api.Step{Code: api.ErrNone, From: 2, To: 2, Look: 3, Rule: -1, After: start}},
		{"  ", 0, start, terms(0, 2), api.Step{From: 2, To: 2, Look: 3, Rule: -1, After: start}},
		{"  ?", 0, start, terms(0), api.Step{Code: api.ErrNone, From: 2, To: 2, Look: 3, Rule: -1, After: start}},
		{"?", 0, start, terms(3), api.Step{Code: api.ErrNone, Look: 1, Rule: -1, After: start}},
		{"?", 0, start, 0, api.Step{Code: api.ErrNone, Look: 1, Rule: -1, After: start}},
		{"\n  a", 0, start, terms(3), api.Step{Term: 3, To: 3, Look: 4, Rule: 3, After: pending}},
		{"\n  a", 3, pending, terms(2), api.Step{Code: api.ErrNone, From: 3, To: 3, Look: 3, Rule: -1, After: pending}},
		{"\n  a", 3, pending, terms(2, 4), api.Step{Term: 4, From: 3, To: 3, Look: 3, Rule: 4, After: api.State{Pending: -1, Indents: []int{2}}}},
		{"a", 1, start, terms(5), api.Step{Term: 5, From: 1, To: 1, Look: 2, Rule: 5, After: start}},
		{"a", 0, start, terms(5), api.Step{Code: api.ErrNone, Look: 1, Rule: -1, After: start}},
	} {
		if got := (question{sample(), c.s, c.text, c.at, c.valid}).same(t); !alike(got, c.want) {
			t.Errorf("7.3: Next of %q at %d, valid %x: %+v, want %+v", c.text, c.at, c.valid, got, c.want)
		}
	}
	word := sample()[1]
	for at, want := range [][2]int{{2, 3}, {2, 3}, {-1, 3}, {-1, 4}, {-1, 0}} {
		if e, f := sameMatch(t, word, start, "ab1", at); e != want[0] || f != want[1] {
			t.Errorf("7.2: Match at %d: %d, %d", at, e, f)
		}
	}
	steps := scan.Lex(sample(), "if a", all, 9)
	if !sameSteps(steps, plainLex(sample(), "if a", all, 9)) || len(steps) != 9 || steps[0].Rule != 0 || steps[1].Rule != 1 {
		t.Errorf("7.4: %+v", steps)
	}
	for _, x := range steps[2:] {
		if x.Rule != 5 {
			t.Errorf("7.4: %+v", x)
		}
	}
}

// 7.4: as many steps as there are, and no more than are asked for.
func TestLexRandom(t *testing.T) {
	r := rand.New(rand.NewSource(78))
	lengths := map[int]int{}
	for range 15000 {
		q := randomQuestion(r)
		n := pick(r, -1, 0, 1, 2, 3, 20, math.MinInt)
		got, want := scan.Lex(q.rules, q.text, q.valid, n), plainLex(q.rules, q.text, q.valid, n)
		if !sameSteps(got, want) {
			t.Fatalf("7.4: Lex(%+v, %q, %x, %d)\n= %+v, want\n%+v", q.rules, q.text, q.valid, n, got, want)
		}
		lengths[len(got)]++
	}
	for n := range 4 {
		if lengths[n] < 100 {
			t.Errorf("too few of %d steps: %v", n, lengths)
		}
	}
}

func TestLexCounts(t *testing.T) {
	for _, c := range []struct {
		text    string
		n, want int
	}{
		{"a b", math.MaxInt, 3}, {"a b", 1 << 40, 3}, {"a b", 3, 3}, {"a b", 2, 2}, {"a b", 1, 1}, {"a b", 0, 0}, {"a b", -1, 0}, {"a b", math.MinInt, 0},
		{"", math.MaxInt, 1}, {"  ", 5, 1}, {"a ?", math.MaxInt, 2}, {"?", 7, 1},
	} {
		if got := scan.Lex(sample(), c.text, terms(0, 2), c.n); len(got) != c.want {
			t.Errorf("7.4: Lex of %q, %d: %d steps, want %d", c.text, c.n, len(got), c.want)
		}
	}
	for _, rules := range [][]api.Rule{nil, {}} {
		if got := scan.Lex(rules, "", 1, 9); len(got) != 1 || got[0].Code != api.OK {
			t.Errorf("7.4: no rules, no text: %+v", got)
		}
		if got := scan.Lex(rules, "a", 1, 9); len(got) != 1 || got[0].Code != api.ErrNone {
			t.Errorf("7.4: no rules: %+v", got)
		}
	}
}

// 7.4: layout, a body that comes later, and a mode with its delimiter, from token to token.
func TestLexLayout(t *testing.T) {
	outer := []int{-1}
	rules := []api.Rule{
		{Term: 1, Pat: api.PatRegex, Re: re("[a-z]+"), In: outer},
		{Term: 2, Pat: api.PatRegex, Re: re("\\n *"), In: outer, Tests: []api.Test{{Kind: api.TestUnqueued}}, Acts: []api.Act{{Kind: api.ActMeasure}}},
		{Term: 3, Pat: api.PatEmpty, In: outer, Tests: []api.Test{{Kind: api.TestDeeper}}, Acts: []api.Act{{Kind: api.ActIndent}}},
		{Term: 4, Pat: api.PatEmpty, In: outer, Tests: []api.Test{{Kind: api.TestShallower}}, Acts: []api.Act{{Kind: api.ActDedent}}},
		{Term: 5, Pat: api.PatRegex, Re: re("<<[A-Z]+"), In: outer, Acts: []api.Act{{Kind: api.ActEnqueue, N: 2}}},
		{Term: -1, Pat: api.PatLit, Lit: "\n", In: outer, Tests: []api.Test{{Kind: api.TestQueued}}, Acts: []api.Act{{Kind: api.ActSet, N: 0}}},
		{Term: 6, Pat: api.PatBody, In: outer, Tests: []api.Test{{Kind: api.TestFlag}}, Acts: []api.Act{{Kind: api.ActDequeue}, {Kind: api.ActClear}}},
		{Term: 7, Pat: api.PatRegex, Re: re("'+"), In: outer, Acts: []api.Act{{Kind: api.ActEnter, N: 0, M: 1}}},
		{Term: 8, Pat: api.PatDelim, In: []int{1}, Acts: []api.Act{{Kind: api.ActLeave}}},
		{Term: 9, Pat: api.PatRegex, Re: re("[a-z ]|'"), In: []int{1}},
		{Term: -1, Pat: api.PatLit, Lit: " ", In: outer},
	}
	text := "if\n  a <<END\nbody <<\n  END\nEND\n  b\n    ''x'y''\nc"
	var got []int
	steps := scan.Lex(rules, text, all, 99)
	for _, x := range steps {
		got = append(got, x.Term)
	}
	want := []int{1, 2, 3, 1, 5, 6, 2, 1, 2, 3, 7, 9, 9, 9, 8, 2, 4, 4, 1, 0}
	if last := steps[len(steps)-1]; !slices.Equal(got, want) || last.Code != api.OK || last.To != len(text) || !state.Same(last.After, state.Start()) {
		t.Errorf("7.4: the tokens %v, want %v; the last step %+v", got, want, last)
	}
	if body := steps[5]; text[body.From:body.To] != "body <<\n  END\nEND" || body.Look != body.To+1 {
		t.Errorf("7.2: the body %+v", body)
	}
}

// A step that passes over much, and many steps, end soon.
func TestSoon(t *testing.T) {
	long := strings.Repeat("\n", 1<<17)
	rules := []api.Rule{
		{Term: -1, Pat: api.PatLit, Lit: "\n", In: []int{-1}, Acts: []api.Act{{Kind: api.ActMeasure}}},
		{Term: 1, Pat: api.PatRegex, Re: re("[a-z]+"), In: []int{-1}},
		{Term: 2, Pat: api.PatRegex, Re: re("(a*)*(b*)*c"), In: []int{-1}},
	}
	if x := scan.Next(rules, state.Start(), long+"a", 0, all); x.Term != 1 || x.From != 1<<17 {
		t.Errorf("7.3: behind much that is passed over: %+v", x)
	}
	if l := scan.Lex(rules, strings.Repeat("a\n", 1<<14), all, math.MaxInt); len(l) != 1<<14+1 {
		t.Errorf("7.4: %d steps", len(l))
	}
	many := slices.Repeat(rules[1:], 1<<12)
	if x := scan.Next(many, state.Start(), "aac", 0, all); x.Rule != 0 {
		t.Errorf("7.3: many rules: %+v", x)
	}
}

// rooms: all that stands in a state's lists, spare room too.
func rooms(s api.State) api.State {
	s.Indents = slices.Clone(s.Indents[:cap(s.Indents)])
	s.Queue = slices.Clone(s.Queue[:cap(s.Queue)])
	s.Frames = slices.Clone(s.Frames[:cap(s.Frames)])
	return s
}

// roomy: the list with something in the spare room behind it.
func roomy[T any](l []T, spare T) []T {
	return append(append(make([]T, 0, len(l)+2), l...), spare, spare)[:len(l)]
}

func roomyState(s api.State) api.State {
	s.Indents, s.Queue, s.Frames = roomy(s.Indents, 71), roomy(s.Queue, "spare"), roomy(s.Frames, api.Frame{Mode: 7})
	return s
}

// ruleRooms: all that stands in the rules' lists, spare room too.
func ruleRooms(rules []api.Rule) []api.Rule {
	out := slices.Clone(rules[:cap(rules)])
	for i, r := range out {
		out[i].Re, out[i].In = slices.Clone(r.Re[:cap(r.Re)]), slices.Clone(r.In[:cap(r.In)])
		out[i].Tests, out[i].Acts = slices.Clone(r.Tests[:cap(r.Tests)]), slices.Clone(r.Acts[:cap(r.Acts)])
	}
	return out
}

func roomyRules(rules []api.Rule) []api.Rule {
	out := roomy(rules, api.Rule{Term: 9})
	for i, r := range out {
		out[i].Re, out[i].In = roomy(r.Re, api.ReNode{Op: 9}), roomy(r.In, 77)
		out[i].Tests, out[i].Acts = roomy(r.Tests, api.Test{Kind: 9}), roomy(r.Acts, api.Act{Kind: 9})
	}
	return out
}

// scribble writes into all of a state's lists, and into their spare room.
func scribble(s api.State) {
	for i := range s.Indents[:cap(s.Indents)] {
		s.Indents[:cap(s.Indents)][i] = 99999
	}
	for i := range s.Queue[:cap(s.Queue)] {
		s.Queue[:cap(s.Queue)][i] = "scribbled"
	}
	for i := range s.Frames[:cap(s.Frames)] {
		s.Frames[:cap(s.Frames)][i] = api.Frame{Mode: 99999, Delim: "scribbled"}
	}
}

// P2, P3: what is handed in is not changed, and what is handed out is new memory, in refusals too.
func TestNextMemory(t *testing.T) {
	r := rand.New(rand.NewSource(79))
	seen := map[string]int{}
	for i := range 6000 {
		q := randomQuestion(r)
		switch i % 4 {
		case 1:
			q.s = oddState(r)
		case 2:
			q.at = -1
		}
		q.rules, q.s = roomyRules(q.rules), roomyState(q.s)
		rules, before := ruleRooms(q.rules), rooms(q.s)
		first, second := q.next(), q.next()
		scan.Applies(api.Rule{Term: -1, In: []int{-1}}, q.s, true, 0)
		for _, rule := range q.rules {
			scan.Match(rule, q.s, q.text, q.at)
		}
		if !reflect.DeepEqual(first, second) {
			t.Fatalf("P3: Next(%+v) twice: %+v, %+v", q, first, second)
		}
		scribble(first.After)
		if !reflect.DeepEqual(ruleRooms(q.rules), rules) || !reflect.DeepEqual(rooms(q.s), before) {
			t.Fatalf("P2: Next(%+v) changes what was handed in, or shares it", q)
		}
		want := clone(second.After)
		scribble(q.s)
		if !reflect.DeepEqual(clone(second.After), want) {
			t.Fatalf("P2: what Next(%+v) answers hangs on other memory", q)
		}
		seen[kind(q, second)]++
	}
	enough(t, seen, 20, "none", "no state", "refused action", "the end", "token behind something", "token without a byte", "token")
}

// P2: the states of one answer share nothing.
func TestLexMemory(t *testing.T) {
	frames := api.Rule{Term: 1, Pat: api.PatLit, Lit: "a", In: []int{-1, 0}, Acts: []api.Act{{Kind: api.ActEnter, N: 0}, {Kind: api.ActEnqueue}}}
	keep := api.Rule{Term: 2, Pat: api.PatLit, Lit: "b", In: []int{-1, 0}}
	rules := []api.Rule{frames, keep}
	for _, valid := range []api.Terms{terms(0, 1, 2), terms(1, 2)} {
		steps := scan.Lex(rules, "aabb", valid, 9)
		if len(steps) != 5 {
			t.Fatalf("7.4: %+v", steps)
		}
		for i := range steps {
			again := scan.Lex(rules, "aabb", valid, 9)
			scribble(again[i].After)
			again[i].After = steps[i].After
			if !sameSteps(steps, again) {
				t.Errorf("P2: the state behind the step %d shares memory with another one's", i)
			}
		}
	}
}

// P2: no delimiter of the state that is told is a piece of what was handed in.
func TestDelimMemory(t *testing.T) {
	text := "abcd"
	s := api.State{Pending: -1, Queue: []string{text[:2]}, Frames: []api.Frame{{Delim: text[2:]}}}
	odd := clone(s)
	odd.Pending = -2
	rules := []api.Rule{{Term: 1, Pat: api.PatRegex, Re: re("[a-z]+"), In: []int{0}, Acts: []api.Act{{Kind: api.ActEnqueue, N: 1}, {Kind: api.ActEnter, N: 2}}}}
	from := uintptr(unsafe.Pointer(unsafe.StringData(text)))
	for _, x := range []api.Step{scan.Next(rules, s, text, 0, all), scan.Next(rules, s, text, 0, 0), scan.Next(rules, odd, text, 0, 0), scan.Next(rules, s, text, 5, 0)} {
		delims := slices.Clone(x.After.Queue)
		for _, f := range x.After.Frames {
			delims = append(delims, f.Delim)
		}
		if len(delims) < 2 {
			t.Errorf("7.3: %+v", x)
		}
		for _, d := range delims {
			if at := uintptr(unsafe.Pointer(unsafe.StringData(d))); from <= at && at < from+uintptr(len(text)) {
				t.Errorf("P2: %q is a piece of the text, in %+v", d, x)
			}
		}
	}
}
