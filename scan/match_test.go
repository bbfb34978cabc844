package scan_test

import (
	"math"
	"math/rand"
	"slices"
	"strings"
	"testing"

	"trellis/api"
	"trellis/regex"
	"trellis/scan"
	"trellis/state"
)

func sameMatch(t *testing.T, r api.Rule, s api.State, text string, at int) (int, int) {
	t.Helper()
	end, far := plainMatch(r, s, text, at)
	e, f := scan.Match(r, s, text, at)
	if e != end || f != far {
		t.Fatalf("7.2: Match(%+v, %+v, %.50q, %d) = %d, %d, want %d, %d", r, s, text, at, e, f, end, far)
	}
	return e, f
}

// 7.2: the regexes of all short texts, over all short strings, from all places on.
func TestMatchRegexes(t *testing.T) {
	regexes := 0
	for _, text := range stringsOf("ab|*?()", 5) {
		tree, code, _ := regex.Parse(text)
		if code != api.OK {
			continue
		}
		regexes++
		for _, s := range stringsOf("ab", 3) {
			for at := range len(s) + 1 {
				sameMatch(t, api.Rule{Pat: api.PatRegex, Re: tree}, api.State{}, s, at)
			}
		}
	}
	if regexes < 500 {
		t.Errorf("only %d of the texts are regexes", regexes)
	}
}

// 7.2: literals and delimiters, and regexes of just these bytes, which match the same and look as far.
func TestMatchRows(t *testing.T) {
	for _, bytes := range stringsOf("ab", 4) {
		lit := api.Rule{Pat: api.PatLit, Lit: bytes}
		s := api.State{Frames: []api.Frame{{Delim: "other"}, {Mode: 3, Delim: bytes}}}
		for _, text := range stringsOf("ab\n", 4) {
			for at := range len(text) + 1 {
				e, f := sameMatch(t, lit, api.State{}, text, at)
				if de, df := sameMatch(t, api.Rule{Pat: api.PatDelim}, s, text, at); de != e || df != f {
					t.Fatalf("7.2: the delimiter %q on %q at %d: %d, %d, as a literal %d, %d", bytes, text, at, de, df, e, f)
				}
				if bytes == "" {
					continue
				}
				if re, rf := sameMatch(t, api.Rule{Pat: api.PatRegex, Re: re(bytes)}, s, text, at); re != e || rf != f {
					t.Fatalf("7.2: the regex %q on %q at %d: %d, %d, as a literal %d, %d", bytes, text, at, re, rf, e, f)
				}
			}
		}
	}
}

// 7.2: bodies: all short texts, from all places on.
func TestMatchBodies(t *testing.T) {
	found := 0
	for _, d := range []string{"E", "EE", "EF", "\r", "E E"} {
		s := api.State{Pending: 4, Queue: []string{d, "F"}, Frames: []api.Frame{{Delim: "F"}}}
		for _, text := range stringsOf("EF\n", 7) {
			for at := range len(text) + 1 {
				if e, _ := sameMatch(t, api.Rule{Pat: api.PatBody}, s, text, at); e >= 0 {
					found++
				}
			}
		}
	}
	if found < 1000 {
		t.Errorf("only %d bodies were found", found)
	}
	s := api.State{Queue: []string{"END"}}
	for _, text := range []string{"", "\n", "END", "END\n", "x\nEND", "x\nEND\n", "END\r\n", "ENDEND\nEND", "\n\nEND\n", "xEND\nEN\nEND", " END\n", "END \nEND\nEND\n", "\nENDX\nEND"} {
		for at := range len(text) + 1 {
			sameMatch(t, api.Rule{Pat: api.PatBody}, s, text, at)
		}
	}
}

// 7.2: rules and states of all kinds, places outside the text among them.
func TestMatchRandom(t *testing.T) {
	r := rand.New(rand.NewSource(72))
	matched := map[api.PatKind]int{}
	for range 60000 {
		rule, s, text := randomRule(r), randomState(r), randomBytes(r, 12)
		at := r.Intn(len(text) + 1)
		switch r.Intn(12) {
		case 0:
			s = oddState(r)
		case 1:
			at = pick(r, -1, math.MinInt, math.MaxInt, len(text)+1, -len(text))
		case 2:
			rule.Pat = pick[api.PatKind](r, 0, -1, 6, math.MinInt, math.MaxInt)
		case 3:
			rule.Re = rule.Re[:r.Intn(len(rule.Re))]
		}
		if e, _ := sameMatch(t, rule, s, text, at); e >= 0 {
			matched[rule.Pat]++
		}
	}
	for kind := api.PatRegex; kind <= api.PatBody; kind++ {
		if matched[kind] < 100 {
			t.Errorf("too few matches of a kind: %v", matched)
		}
	}
}

// 7.2: what the rule is there for, besides its pattern, is not asked.
func TestMatchAsksNoRule(t *testing.T) {
	s := api.State{Pending: 7, Frames: []api.Frame{{Mode: 2}}}
	for _, term := range []int{-1, 0, 1, 99, math.MinInt} {
		r := api.Rule{Term: term, Pat: api.PatLit, Lit: "ab", Tests: []api.Test{{Kind: 99}}, Acts: []api.Act{{Kind: 99}}}
		if e, f := scan.Match(r, s, "xab", 1); e != 3 || f != 3 {
			t.Errorf("7.2: a literal of the term %d: %d, %d", term, e, f)
		}
	}
}

// 7.2: what cannot match looks at nothing; and where the text is not, nothing is.
func TestMatchNothing(t *testing.T) {
	tree := re("a|b*c")
	odd := [][]api.ReNode{nil, {}, tree[1:], tree[:len(tree)-1], slices.Repeat(tree, 40), {{Op: 99, A: -1, B: -1}}, {{Op: api.ReClass, A: -1, B: -1}}}
	rules := []api.Rule{{}, {Pat: 6}, {Pat: -1}, {Pat: api.PatLit}, {Pat: api.PatDelim}, {Pat: api.PatBody}}
	for _, o := range odd {
		rules = append(rules, api.Rule{Pat: api.PatRegex, Re: o, Lit: "ab"})
	}
	for _, s := range []api.State{state.Start(), {Frames: []api.Frame{{Delim: "a"}, {}}}, {Pending: -2, Queue: []string{"ab"}, Frames: []api.Frame{{Delim: "ab"}}}} {
		for _, r := range rules {
			for at := range 3 {
				if e, f := sameMatch(t, r, s, "ab", at); e != -1 || f != at {
					t.Errorf("7.2: Match(%+v, %+v, %d) = %d, %d", r, s, at, e, f)
				}
			}
			for _, at := range []int{-1, 3, math.MinInt, math.MaxInt} {
				if e, f := sameMatch(t, r, s, "ab", at); e != -1 || f != 0 {
					t.Errorf("7.2: Match(%+v, %d) = %d, %d", r, at, e, f)
				}
			}
		}
	}
	odder := api.State{Pending: -2, Queue: []string{"ab"}, Frames: []api.Frame{{Delim: "ab"}}}
	for _, r := range []api.Rule{{Pat: api.PatRegex, Re: re("ab")}, {Pat: api.PatLit, Lit: "ab"}} {
		if e, f := scan.Match(r, odder, "ab", 0); e != 2 || f != 2 {
			t.Errorf("7.2: %+v in a state that is not shaped, which it does not ask: %d, %d", r, e, f)
		}
	}
	if e, f := scan.Match(api.Rule{Pat: api.PatEmpty}, odder, "ab", 2); e != 2 || f != 2 {
		t.Errorf("7.2: the empty pattern at the end: %d, %d", e, f)
	}
}

// 7.2: literals and texts of any length.
func TestMatchLong(t *testing.T) {
	long := strings.Repeat("ab", 1<<19)
	for _, c := range []struct {
		r        api.Rule
		text     string
		at       int
		end, far int
	}{
		{api.Rule{Pat: api.PatLit, Lit: long}, long, 0, 1 << 20, 1 << 20},
		{api.Rule{Pat: api.PatLit, Lit: long}, "x" + long + "y", 1, 1<<20 + 1, 1<<20 + 1},
		{api.Rule{Pat: api.PatLit, Lit: long}, long[1:], 1, -1, 1 << 20},
		{api.Rule{Pat: api.PatLit, Lit: long + "a"}, long + "b", 0, -1, 1<<20 + 1},
		{api.Rule{Pat: api.PatRegex, Re: re("[ab]*")}, long, 7, 1 << 20, 1<<20 + 1},
		{api.Rule{Pat: api.PatBody}, long, 0, -1, 1<<20 + 1},
		{api.Rule{Pat: api.PatBody}, strings.Repeat("E \n", 1<<18) + "E\nE", 0, 3<<18 + 1, 3<<18 + 2},
	} {
		if e, f := scan.Match(c.r, api.State{Queue: []string{"E"}}, c.text, c.at); e != c.end || f != c.far {
			t.Errorf("7.2: %d bytes from %d on: %d, %d, want %d, %d", len(c.text), c.at, e, f, c.end, c.far)
		}
	}
}
