package scan_test

import (
	"math"
	"math/rand"
	"reflect"
	"slices"
	"strings"

	"trellis/api"
	"trellis/regex"
	"trellis/state"
)

// What the tests of this package share: the chapter's words told plainly, and rules, states and texts of all kinds.

const all = ^api.Terms(0)

func terms(l ...int) api.Terms {
	var t api.Terms
	for _, n := range l {
		t |= 1 << n
	}
	return t
}

func re(text string) []api.ReNode {
	tree, code, _ := regex.Parse(text)
	if code != api.OK {
		panic("no regex: " + text)
	}
	return tree
}

// clone: the same state in memory of its own, empty lists as nil.
func clone(s api.State) api.State {
	s.Indents = append([]int(nil), s.Indents...)
	s.Queue = append([]string(nil), s.Queue...)
	s.Frames = append([]api.Frame(nil), s.Frames...)
	return s
}

func alike(a, b api.Step) bool {
	a.After, b.After = clone(a.After), clone(b.After)
	return reflect.DeepEqual(a, b)
}

func sameSteps(a, b []api.Step) bool { return slices.EqualFunc(a, b, alike) }

// asks: has the rule a test of one of the kinds?
func asks(r api.Rule, kinds ...api.TestKind) bool {
	for _, t := range r.Tests {
		if slices.Contains(kinds, t.Kind) {
			return true
		}
	}
	return false
}

// plainApplies: 7.1.
func plainApplies(r api.Rule, s api.State, ended bool, valid api.Terms) bool {
	inValid := r.Term == -1
	for t := 1; t <= 63; t++ {
		inValid = inValid || r.Term == t && uint64(valid)/(1<<t)%2 == 1
	}
	mode := -1
	for _, f := range s.Frames {
		mode = f.Mode
	}
	among := false
	for _, m := range r.In {
		among = among || m == mode
	}
	hold := true
	for _, t := range r.Tests {
		hold = hold && state.Holds(s, t, ended)
	}
	return state.Shaped(s) && inValid && among && hold && (s.Pending == -1 || asks(r, api.TestDeeper, api.TestShallower))
}

// plainRegex: the greatest end of a match, the least place that is not open.
func plainRegex(tree []api.ReNode, text string, at int) (int, int) {
	end, far := -1, len(text)+1
	for x := len(text); x >= at; x-- {
		if end == -1 && regex.Matches(tree, text[at:x]) {
			end = x
		}
		if _, open := regex.Begins(tree, text[at:x]); !open {
			far = x
		}
	}
	return end, far
}

// plainRow: a literal or a delimiter.
func plainRow(bytes, text string, at int) (int, int) {
	same := 0
	for same < len(bytes) && at+same < len(text) && bytes[same] == text[at+same] {
		same++
	}
	switch {
	case bytes == "":
		return -1, at
	case same == len(bytes):
		return at + same, at + same
	case at+same == len(text):
		return -1, len(text) + 1
	}
	return -1, at + same + 1
}

func plainBody(d, text string, at int) (int, int) {
	for q := at; q <= len(text); q++ {
		if q != at && text[q-1] != 10 || !strings.HasPrefix(text[q:], d) {
			continue
		}
		if behind := text[q+len(d):]; behind == "" || behind[0] == 10 {
			return q + len(d), q + len(d) + 1
		}
	}
	return -1, len(text) + 1
}

// plainMatch: 7.2.
func plainMatch(r api.Rule, s api.State, text string, at int) (int, int) {
	shaped := state.Shaped(s)
	switch {
	case at < 0 || at > len(text):
		return -1, 0
	case r.Pat == api.PatRegex && regex.Shaped(r.Re):
		return plainRegex(r.Re, text, at)
	case r.Pat == api.PatLit:
		return plainRow(r.Lit, text, at)
	case r.Pat == api.PatDelim && shaped && len(s.Frames) > 0:
		return plainRow(s.Frames[len(s.Frames)-1].Delim, text, at)
	case r.Pat == api.PatBody && shaped && len(s.Queue) > 0:
		return plainBody(s.Queue[0], text, at)
	case r.Pat == api.PatEmpty:
		return at, at
	}
	return -1, at
}

// plainWinner: DOC.md's winner at a place, and the end of its match; and how far the rules look there.
func plainWinner(rules []api.Rule, s api.State, text string, p int, valid api.Terms) (winner, end, look int) {
	winner, look = -1, p
	for i, r := range rules {
		if asks(r, api.TestEnded) && plainApplies(r, s, true, valid) {
			look = max(look, p+1)
		}
		if !plainApplies(r, s, p == len(text), valid) {
			continue
		}
		e, far := plainMatch(r, s, text, p)
		look = max(look, far)
		matches := e != -1 && !(r.Term == -1 && e == p)
		if matches && (winner == -1 || e > end) {
			winner, end = i, e
		}
	}
	return winner, end, look
}

// plainNext: 7.3, what is passed over by calling itself.
func plainNext(rules []api.Rule, s api.State, text string, at int, valid api.Terms) api.Step {
	if at < 0 || at > len(text) {
		return api.Step{Code: api.ErrNone, Rule: -1, After: s}
	}
	if !state.Shaped(s) {
		return api.Step{Code: api.ErrBlob, From: at, To: at, Look: at, Rule: -1, After: s}
	}
	winner, end, look := plainWinner(rules, s, text, at, valid)
	if winner == -1 {
		step := api.Step{Code: api.ErrNone, From: at, To: at, Look: look, Rule: -1, After: s}
		if valid%2 == 1 {
			step.Look = max(look, at+1)
		}
		if valid%2 == 1 && at == len(text) {
			step.Code = api.OK
		}
		return step
	}
	r := rules[winner]
	after, code := state.All(s, r.Acts, text[at:end])
	switch {
	case code != api.OK:
		return api.Step{Code: code, From: at, To: at, Look: look, Rule: winner, After: s}
	case r.Term == -1:
		step := plainNext(rules, after, text, end, valid)
		step.Look = max(step.Look, look)
		return step
	}
	return api.Step{Term: r.Term, From: at, To: end, Look: look, Rule: winner, After: after}
}

// plainLex: 7.4.
func plainLex(rules []api.Rule, text string, valid api.Terms, n int) []api.Step {
	var out []api.Step
	s, at := state.Start(), 0
	for i := 0; i < n; i++ {
		step := plainNext(rules, s, text, at, valid)
		out = append(out, step)
		if step.Code != api.OK || step.Term == 0 {
			break
		}
		s, at = step.After, step.To
	}
	return out
}

// stringsOf: all strings over the letters, up to so many bytes.
func stringsOf(letters string, most int) []string {
	out := []string{""}
	for from, n := 0, 0; n < most; n++ {
		to := len(out)
		for _, s := range out[from:to] {
			for i := range len(letters) {
				out = append(out, s+letters[i:i+1])
			}
		}
		from = to
	}
	return out
}

const someBytes = "aab \nE'"

func randomBytes(r *rand.Rand, most int) string {
	var b []byte
	for range r.Intn(most + 1) {
		b = append(b, someBytes[r.Intn(len(someBytes))])
	}
	return string(b)
}

// pick: one of the values.
func pick[T any](r *rand.Rand, l ...T) T { return l[r.Intn(len(l))] }

// listOf: up to so many of what make gives.
func listOf[T any](r *rand.Rand, most int, make func(*rand.Rand) T) []T {
	var out []T
	for range r.Intn(most + 1) {
		out = append(out, make(r))
	}
	return out
}

func randomTest(r *rand.Rand) api.Test {
	return api.Test{Kind: api.TestKind(1 + r.Intn(8)), N: r.Intn(2)}
}

// randomAct: more often than not one that can be done.
func randomAct(r *rand.Rand) api.Act {
	kind := api.ActKind(1 + r.Intn(10))
	if r.Intn(3) > 0 {
		kind = pick(r, api.ActMeasure, api.ActEnqueue, api.ActEnter, api.ActSet, api.ActClear)
	}
	return api.Act{Kind: kind, N: r.Intn(2), M: r.Intn(2)}
}

// randomRule: in most states one that stands, with a pattern that often matches a few of someBytes.
func randomRule(r *rand.Rand) api.Rule {
	out := api.Rule{Term: pick(r, -1, -1, 0, 1, 2, 3, 4, 5), In: pick(r, []int{-1, 0, 1}, []int{2, 1, 0, -1}, []int{-1, 0}, []int{1, -1}, []int{0, 1}, []int{-1})}
	out.Pat = pick(r, api.PatRegex, api.PatRegex, api.PatRegex, api.PatLit, api.PatLit, api.PatDelim, api.PatBody)
	if r.Intn(12) == 0 {
		out.Pat = api.PatEmpty
	}
	out.Re = re(pick(r, "a+", "[ab]+", "ab", " ", " +", "\\n *", "a|abb", "(ab)*b", "[^E]+", "a*", "E?", "'", "[a-z]*E", ".+", "(a|b|())", "\\n"))
	out.Lit = pick(r, "a", "a", "ab", "aab", "b", " ", "\n", "E", "'", "")
	if r.Intn(4) == 0 {
		out.Tests = listOf(r, 2, randomTest)
	}
	if r.Intn(3) == 0 {
		out.Acts = listOf(r, 2, randomAct)
	}
	return out
}

// randomState: a shaped one, often with nothing pending.
func randomState(r *rand.Rand) api.State {
	s := state.Start()
	if r.Intn(6) == 0 {
		s.Pending = r.Intn(5)
	}
	s.Indents = pick(r, nil, nil, []int{2}, []int{1, 3})
	s.Queue = pick(r, nil, nil, []string{"E"}, []string{"a", "E"}, []string{"ab"})
	s.Frames = pick(r, nil, nil, nil, []api.Frame{{Delim: "'"}}, []api.Frame{{Mode: 1, Delim: "aa"}}, []api.Frame{{Mode: 1, Delim: "b"}, {Mode: 0}}, []api.Frame{{Mode: 2}})
	s.Flags = uint16(r.Intn(4))
	return s
}

// oddState: one that is not shaped, in one of many ways.
func oddState(r *rand.Rand) api.State {
	s := randomState(r)
	switch r.Intn(6) {
	case 0:
		s.Pending = pick(r, -2, math.MinInt, math.MaxInt, api.MaxWidth+1)
	case 1:
		s.Indents = pick(r, []int{0}, []int{2, 2}, []int{-1}, make([]int, 99))
	case 2:
		s.Queue = pick(r, []string{""}, []string{"a\n"}, make([]string, 99), []string{strings.Repeat("a", 17)})
	case 3:
		s.Frames = pick(r, []api.Frame{{Mode: -1}}, []api.Frame{{Mode: 16}}, make([]api.Frame, 17), []api.Frame{{Delim: strings.Repeat("a", 17)}})
	case 4:
		s.Frames = []api.Frame{{Mode: math.MinInt, Delim: "a"}}
	case 5:
		s.Queue = slices.Repeat([]string{"E"}, 9)
	}
	return s
}

func randomTerms(r *rand.Rand) api.Terms {
	return pick(r, all, all, all, api.Terms(r.Intn(64)), api.Terms(r.Intn(64)), api.Terms(r.Intn(2)))
}

// question: what Next is asked.
type question struct {
	rules []api.Rule
	s     api.State
	text  string
	at    int
	valid api.Terms
}

func randomQuestion(r *rand.Rand) question {
	q := question{rules: listOf(r, 10, randomRule), s: randomState(r), text: randomBytes(r, 12), valid: randomTerms(r)}
	q.at = r.Intn(len(q.text) + 1)
	return q
}

// sample: the rules of the chapter's examples.
func sample() []api.Rule {
	in := []int{-1}
	return []api.Rule{
		{Term: 1, Pat: api.PatLit, Lit: "if", In: in},
		{Term: 2, Pat: api.PatRegex, Re: re("[a-z]+"), In: in},
		{Term: -1, Pat: api.PatRegex, Re: re(" +"), In: in},
		{Term: 3, Pat: api.PatRegex, Re: re("\\n *"), In: in, Acts: []api.Act{{Kind: api.ActMeasure}}},
		{Term: 4, Pat: api.PatEmpty, In: in, Tests: []api.Test{{Kind: api.TestDeeper}}, Acts: []api.Act{{Kind: api.ActIndent}}},
		{Term: 5, Pat: api.PatEmpty, In: in, Tests: []api.Test{{Kind: api.TestEnded}}},
	}
}
