package scan_test

import (
	"math/rand"
	"testing"

	"trellis/api"
	"trellis/scan"
	"trellis/state"
)

// sameWithOther: 7.5 of a question whose step looks no further than the text, with other bytes from there on.
func (q question) sameWithOther(t *testing.T, step api.Step, bytes string) {
	t.Helper()
	other := q
	other.text = q.text[:step.Look] + bytes
	if got := other.next(); !alike(got, step) {
		t.Fatalf("7.5: Next(%+v)\n= %+v, but with the text %q\n%+v", q, step, other.text, got)
	}
}

// 7.5: random questions; all short tails, and longer ones.
func TestLooksNoFurther(t *testing.T) {
	r := rand.New(rand.NewSource(75))
	tails := stringsOf("a \nE", 2)
	seen := map[string]int{}
	for range 8000 {
		q := randomQuestion(r)
		step := q.next()
		if step.Look < q.at || step.Look > len(q.text)+1 || step.To > step.Look {
			t.Fatalf("7.3: Next(%+v) = %+v", q, step)
		}
		if step.Look > len(q.text) {
			continue
		}
		seen[kind(q, step)]++
		for _, tail := range tails {
			q.sameWithOther(t, step, tail)
		}
		for range 5 {
			q.sameWithOther(t, step, randomBytes(r, 20))
		}
	}
	enough(t, seen, 20, "none", "refused action", "token behind something", "token without a byte", "token")
}

// 7.5: all short texts, by rules that ask for the end, for what is pending and for bodies.
func TestLooksNoFurtherAllShort(t *testing.T) {
	in := []int{-1}
	ended := []api.Test{{Kind: api.TestEnded}}
	texts := stringsOf("aE\n", 4)
	for _, rules := range [][]api.Rule{
		{{Term: 1, Pat: api.PatEmpty, In: in, Tests: ended}, {Term: -1, Pat: api.PatLit, Lit: "a", In: in}},
		{{Term: 1, Pat: api.PatBody, In: in}, {Term: -1, Pat: api.PatLit, Lit: "a", In: in}},
		{{Term: 1, Pat: api.PatRegex, Re: re("a(aa)*"), In: in}, {Term: 2, Pat: api.PatLit, Lit: "\nE", In: in}, {Term: -1, Pat: api.PatLit, Lit: "E", In: in}},
		{{Term: 1, Pat: api.PatEmpty, In: in}},
		{{Term: 1, Pat: api.PatRegex, Re: re("\\nE*"), In: in}, {Term: -1, Pat: api.PatRegex, Re: re("a+"), In: in, Tests: ended}},
	} {
		for _, text := range texts {
			for valid := range api.Terms(4) {
				q := question{rules, api.State{Pending: -1, Queue: []string{"E"}}, text, 0, valid}
				step := q.same(t)
				for _, tail := range texts {
					if step.Look <= len(text) {
						q.sameWithOther(t, step, tail)
					}
				}
			}
		}
	}
}

// 7.6: the step of the text without what stands ahead.
func TestAheadDoesNotCount(t *testing.T) {
	r := rand.New(rand.NewSource(76))
	for range 20000 {
		q := randomQuestion(r)
		want := q.next()
		bare := q
		bare.text, bare.at = q.text[q.at:], 0
		got := bare.next()
		got.From += q.at
		got.To += q.at
		got.Look += q.at
		if !alike(got, want) {
			t.Fatalf("7.6: Next(%+v)\n= %+v, without what stands ahead\n%+v", q, want, got)
		}
		q.text = randomBytes(r, 9) + "\n" + q.text[q.at:]
		longer := len(q.text) - len(bare.text)
		q.at = longer
		got = q.next()
		got.From -= longer
		got.To -= longer
		got.Look -= longer
		if again := bare.next(); !alike(got, again) {
			t.Fatalf("7.6: Next(%+v)\n= %+v, and with other bytes ahead\n%+v", bare, again, got)
		}
	}
}

// 7.7: the winner, by Applies and Match.
func TestWinner(t *testing.T) {
	r := rand.New(rand.NewSource(77))
	tokens := 0
	for range 40000 {
		q := randomQuestion(r)
		step := q.next()
		if step.Code != api.OK || step.Term == 0 || step.From != q.at {
			continue
		}
		best, end := -1, -1
		for i, rule := range q.rules {
			if e, _ := scan.Match(rule, q.s, q.text, q.at); scan.Applies(rule, q.s, q.at == len(q.text), q.valid) && e > end && (rule.Term != -1 || e > q.at) {
				best, end = i, e
			}
		}
		tokens++
		if step.Rule != best || step.To != end || step.Term != q.rules[best].Term {
			t.Fatalf("7.7: Next(%+v) = %+v, but the rule %d matches up to %d", q, step, best, end)
		}
	}
	if tokens < 1000 {
		t.Errorf("only %d tokens", tokens)
	}
}

// 7.7: ties go to the least number, whatever the terms; a longer match goes ahead of a lesser number.
func TestWinnerTies(t *testing.T) {
	in := []int{-1}
	a := func(term int, lit string) api.Rule { return api.Rule{Term: term, Pat: api.PatLit, Lit: lit, In: in} }
	for _, c := range []struct {
		rules []api.Rule
		rule  int
	}{
		{[]api.Rule{a(5, "ab"), a(1, "ab")}, 0},
		{[]api.Rule{a(5, "a"), a(9, "ab"), a(1, "ab")}, 1},
		{[]api.Rule{a(5, "a"), {Term: 3, Pat: api.PatRegex, Re: re("[ab]+"), In: in}, a(1, "ab")}, 1},
		{[]api.Rule{a(1, "abc"), a(1, "x"), a(2, "ab"), a(2, "ab")}, 2},
		{[]api.Rule{{Term: 7, Pat: api.PatEmpty, In: in}, {Term: 8, Pat: api.PatEmpty, In: in}}, 0},
		{[]api.Rule{{Term: 7, Pat: api.PatEmpty, In: in}, a(8, "a")}, 1},
		{[]api.Rule{a(2, "ab"), a(-1, "ab"), a(3, "ab")}, 0},
		{[]api.Rule{{Term: 2, Pat: api.PatLit, Lit: "ab", In: []int{0}}, a(4, "ab")}, 1},
	} {
		if got := scan.Next(c.rules, state.Start(), "ab", 0, all); got.Rule != c.rule || got.Term != c.rules[c.rule].Term {
			t.Errorf("7.7: %+v: %+v, want the rule %d", c.rules, got, c.rule)
		}
	}
	skipped := []api.Rule{a(-1, "ab"), a(2, "ab"), a(3, "c")}
	if got := scan.Next(skipped, state.Start(), "abc", 0, all); got.Rule != 2 || got.From != 2 {
		t.Errorf("7.7: a skip rule with the least number: %+v", got)
	}
}
