package scan_test

import (
	"math"
	"math/rand"
	"slices"
	"testing"

	"trellis/api"
	"trellis/scan"
	"trellis/state"
)

func (q question) next() api.Step { return scan.Next(q.rules, q.s, q.text, q.at, q.valid) }

func (q question) same(t *testing.T) api.Step {
	t.Helper()
	want := plainNext(q.rules, q.s, q.text, q.at, q.valid)
	got := q.next()
	if !alike(got, want) {
		t.Fatalf("7.3: Next(%+v)\n= %+v, want\n%+v", q, got, want)
	}
	return got
}

// kind: what a step is, for counting.
func kind(q question, x api.Step) string {
	switch {
	case x.Code == api.ErrNone:
		return "none"
	case x.Code == api.ErrBlob:
		return "no state"
	case x.Code != api.OK:
		return "refused action"
	case x.Term == 0:
		return "the end"
	case x.From > q.at:
		return "token behind something"
	case x.From == x.To:
		return "token without a byte"
	}
	return "token"
}

func enough(t *testing.T, seen map[string]int, least int, kinds ...string) {
	t.Helper()
	for _, k := range kinds {
		if seen[k] < least {
			t.Errorf("too few of a kind: %v", seen)
		}
	}
}

// 7.3: rules, states and texts of all kinds.
func TestNextRandom(t *testing.T) {
	r := rand.New(rand.NewSource(73))
	seen := map[string]int{}
	for range 60000 {
		q := randomQuestion(r)
		seen[kind(q, q.same(t))]++
	}
	enough(t, seen, 500, "none", "refused action", "the end", "token behind something", "token without a byte", "token")
}

// 7.3: all short texts, all places, all valid sets, by a few sets of rules.
func TestNextAllShort(t *testing.T) {
	in := []int{-1}
	blank := api.Rule{Term: -1, Pat: api.PatRegex, Re: re(" +"), In: in}
	ended := []api.Test{{Kind: api.TestEnded}}
	heads := [][]api.Rule{
		{blank, {Term: 1, Pat: api.PatLit, Lit: "a", In: in}, {Term: 2, Pat: api.PatRegex, Re: re("a+"), In: in}},
		{{Term: 1, Pat: api.PatRegex, Re: re("a *a|a"), In: in}, blank, {Term: 2, Pat: api.PatEmpty, In: in}},
		{blank, {Term: 1, Pat: api.PatEmpty, In: in, Tests: ended}, {Term: 2, Pat: api.PatLit, Lit: "aa", In: in}},
		{{Term: 1, Pat: api.PatLit, Lit: "a", In: in}, {Term: -1, Pat: api.PatLit, Lit: "a", In: in}, {Term: -1, Pat: api.PatEmpty, In: in}, {Term: 2, Pat: api.PatRegex, Re: re("()|\\n"), In: in}},
		{{Term: -1, Pat: api.PatRegex, Re: re("\\n *"), In: in, Acts: []api.Act{{Kind: api.ActMeasure}}}, {Term: 1, Pat: api.PatEmpty, In: in, Tests: []api.Test{{Kind: api.TestDeeper}}, Acts: []api.Act{{Kind: api.ActIndent}}}, {Term: 2, Pat: api.PatLit, Lit: "a", In: in}, blank},
		{{Term: -1, Pat: api.PatLit, Lit: "a", In: in, Acts: []api.Act{{Kind: api.ActLeave}}}, {Term: 1, Pat: api.PatLit, Lit: "\n", In: in, Tests: ended}, {Term: -1, Pat: api.PatLit, Lit: " ", In: in, Tests: ended}},
		{{Term: -1, Pat: api.PatLit, Lit: " ", In: []int{-1, 0}, Acts: []api.Act{{Kind: api.ActEnter, N: -1}}}, {Term: 1, Pat: api.PatLit, Lit: "a", In: []int{0}}, {Term: 2, Pat: api.PatRegex, Re: re("[a\\n]+"), In: in}},
	}
	for _, rules := range heads {
		for _, text := range stringsOf("a \n", 4) {
			for at := range len(text) + 1 {
				for valid := range api.Terms(8) {
					question{rules, state.Start(), text, at, valid}.same(t)
				}
			}
		}
	}
}

// 7.3: wrong places, states that are not shaped, and rules that are any plain data.
func TestNextWrong(t *testing.T) {
	r := rand.New(rand.NewSource(74))
	numbers := []int{math.MinInt, -2, -1, 0, 1, 63, 64, math.MaxInt}
	seen := map[string]int{}
	for range 30000 {
		q := randomQuestion(r)
		switch r.Intn(8) {
		case 0:
			q.at = pick(r, -1, math.MinInt, math.MaxInt, len(q.text)+1)
		case 1:
			q.s = oddState(r)
		case 2:
			q.at, q.s = pick(r, -1, math.MinInt, math.MaxInt, len(q.text)+1), oddState(r)
		}
		for i := range q.rules {
			x := &q.rules[i]
			switch r.Intn(24) {
			case 0:
				x.Term = pick(r, numbers...)
			case 1:
				x.Pat = api.PatKind(pick(r, numbers...))
			case 2:
				x.Re = x.Re[r.Intn(len(x.Re)):]
			case 3:
				x.Tests = []api.Test{{Kind: api.TestKind(pick(r, numbers...)), N: pick(r, numbers...)}}
			case 4:
				x.Acts = []api.Act{{Kind: api.ActKind(r.Intn(12)), N: pick(r, numbers...), M: pick(r, numbers...)}}
			case 5:
				x.In = numbers
			}
		}
		seen[kind(q, q.same(t))]++
	}
	enough(t, seen, 100, "none", "no state", "refused action", "the end", "token behind something", "token without a byte", "token")
	if got := scan.Next(nil, api.State{}, "", 0, 0); !alike(got, api.Step{Code: api.ErrNone, Rule: -1}) {
		t.Errorf("7.3: no rules: %+v", got)
	}
}

// 7.3: a skip rule whose match has no byte is no winner, but looks; the next rule may win.
func TestNextEmptySkip(t *testing.T) {
	in := []int{-1}
	skip := api.Rule{Term: -1, Pat: api.PatRegex, Re: re("(ab)*"), In: in, Acts: []api.Act{{Kind: api.ActLeave}}}
	token := api.Rule{Term: 1, Pat: api.PatEmpty, In: in}
	for _, c := range []struct {
		rules []api.Rule
		want  api.Step
	}{
		{[]api.Rule{skip, token}, api.Step{Term: 1, Look: 2, Rule: 1}},
		{[]api.Rule{token, skip}, api.Step{Term: 1, Look: 2}},
		{[]api.Rule{skip}, api.Step{Code: api.ErrNone, Look: 2, Rule: -1}},
		{[]api.Rule{{Term: -1, Pat: api.PatEmpty, In: in}, skip}, api.Step{Code: api.ErrNone, Look: 2, Rule: -1}},
	} {
		got := scan.Next(c.rules, state.Start(), "ac", 0, 2)
		c.want.After = state.Start()
		if !alike(got, c.want) {
			t.Errorf("7.3: %+v: %+v, want %+v", c.rules, got, c.want)
		}
	}
}

// 7.3: where a rule has the test ended, the place is looked at if nothing else keeps it from standing.
func TestNextLooksAtTheEnd(t *testing.T) {
	ended, flag := api.Test{Kind: api.TestEnded}, api.Test{Kind: api.TestFlag}
	for _, c := range []struct {
		r    api.Rule
		s    api.State
		text string
		look int
	}{
		{api.Rule{Term: 1, In: []int{-1}, Tests: []api.Test{ended}}, state.Start(), "a", 1},
		{api.Rule{Term: 1, In: []int{-1}, Tests: []api.Test{ended}}, state.Start(), "", 1},
		{api.Rule{Term: -1, In: []int{-1}, Tests: []api.Test{ended}}, state.Start(), "a", 1},
		{api.Rule{Term: 2, In: []int{-1}, Tests: []api.Test{ended}}, state.Start(), "", 0},
		{api.Rule{Term: 1, In: []int{0}, Tests: []api.Test{ended}}, state.Start(), "", 0},
		{api.Rule{Term: 1, In: []int{-1}, Tests: []api.Test{ended}}, api.State{Pending: 0}, "", 0},
		{api.Rule{Term: 1, In: []int{-1}, Tests: []api.Test{ended, flag}}, state.Start(), "a", 0},
		{api.Rule{Term: 1, In: []int{-1}, Tests: []api.Test{flag, ended}}, api.State{Pending: -1, Flags: 1}, "a", 1},
		{api.Rule{Term: 1, In: []int{-1}, Tests: []api.Test{{Kind: api.TestDeeper}, ended}}, api.State{Pending: 2}, "a", 1},
		{api.Rule{Term: 1, In: []int{-1}, Tests: []api.Test{{Kind: api.TestShallower}, ended}}, api.State{Pending: 2}, "a", 0},
		{api.Rule{Term: 1, In: []int{-1}, Tests: []api.Test{ended}, Pat: api.PatRegex, Re: re("aaa")}, state.Start(), "aaa", 1},
	} {
		q := question{[]api.Rule{c.r}, c.s, c.text, 0, 2}
		if got := q.same(t); got.Look != c.look || got.Rule != -1 {
			t.Errorf("7.3: Next(%+v) = %+v, want the look %d", q, got, c.look)
		}
	}
}

// 7.3: the actions of what is passed over are done one behind the other, and the state ahead of an action that cannot be done is told.
func TestNextActions(t *testing.T) {
	in := []int{-1, 0, 1}
	rules := []api.Rule{
		{Term: -1, Pat: api.PatLit, Lit: "<", In: in, Acts: []api.Act{{Kind: api.ActEnter, N: 0, M: 1}}},
		{Term: -1, Pat: api.PatLit, Lit: ">", In: in, Acts: []api.Act{{Kind: api.ActSet, N: 3}, {Kind: api.ActLeave}, {Kind: api.ActLeave}}},
		{Term: 1, Pat: api.PatLit, Lit: "a", In: []int{1}, Acts: []api.Act{{Kind: api.ActEnqueue, N: 0}}},
		{Term: 2, Pat: api.PatLit, Lit: "b", In: in, Acts: []api.Act{{Kind: api.ActEnqueue, N: 1}}},
	}
	frame := api.Frame{Mode: 1, Delim: "<"}
	for _, c := range []struct {
		text string
		want api.Step
	}{
		{"<<a", api.Step{Term: 1, From: 2, To: 3, Look: 3, Rule: 2, After: api.State{Pending: -1, Queue: []string{"a"}, Frames: []api.Frame{frame, frame}}}},
		{"<<><a", api.Step{Term: 1, From: 4, To: 5, Look: 5, Rule: 2, After: api.State{Pending: -1, Flags: 8, Queue: []string{"a"}, Frames: []api.Frame{frame}}}},
		{"<>a", api.Step{Code: api.ErrAct, From: 1, To: 1, Look: 2, Rule: 1, After: api.State{Pending: -1, Frames: []api.Frame{frame}}}},
		{"<<>", api.Step{Code: api.ErrNone, From: 3, To: 3, Look: 4, Rule: -1, After: api.State{Pending: -1, Flags: 8}}},
		{"<b", api.Step{Code: api.ErrDelim, From: 1, To: 1, Look: 2, Rule: 3, After: api.State{Pending: -1, Frames: []api.Frame{frame}}}},
		{"<<<<<<<<<<<<<<<<<", api.Step{Code: api.ErrFrames, From: 16, To: 16, Look: 17, After: api.State{Pending: -1, Frames: slices.Repeat([]api.Frame{frame}, 16)}}},
	} {
		q := question{rules, state.Start(), c.text, 0, terms(1, 2)}
		if got := q.same(t); !alike(got, c.want) {
			t.Errorf("7.3: %q: %+v, want %+v", c.text, got, c.want)
		}
	}
}
