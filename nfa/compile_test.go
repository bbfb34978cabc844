package nfa_test

import (
	"math/rand"
	"reflect"
	"slices"
	"strings"
	"testing"

	"trellis/api"
	"trellis/nfa"
	"trellis/regex"
)

func taken(t *testing.T, text string) []api.ReNode {
	t.Helper()
	re, code, at := regex.Parse(text)
	if code != api.OK {
		t.Fatalf("4.1: Parse(%q): %d at %d", text, code, at)
	}
	return re
}

// small: 5.1: no more than 2 states a node.
func small(t *testing.T, re []api.ReNode, n api.Nfa) {
	t.Helper()
	if len(n.On) > 2*len(re) || len(n.To) > len(n.On) || len(n.Free) > len(n.On) {
		t.Fatalf("5.1: %d states of %d nodes", len(n.On), len(re))
	}
}

// sameRun: 5.5 of a regex, a text and a place.
func sameRun(t *testing.T, re []api.ReNode, n api.Nfa, text string, at int) {
	t.Helper()
	end, far := -1, len(text)+1
	for e := at; e <= len(text); e++ {
		if regex.Matches(re, text[at:e]) {
			end = e
		}
		if _, open := regex.Begins(re, text[at:e]); !open && far > e {
			far = e
		}
	}
	if e, f := nfa.Run(n, text, at); e != end || f != far {
		t.Fatalf("5.5: Run of %v over %q from %d on: %d, %d, want %d, %d", re, text, at, e, f, end, far)
	}
}

// 5.1, 5.5: the regexes of all short texts, over all short strings.
func TestCompileAllShort(t *testing.T) {
	regexes := 0
	for _, text := range stringsOf("ab|*+?()", 5) {
		re, code, _ := regex.Parse(text)
		if code != api.OK {
			continue
		}
		regexes++
		n := nfa.Compile(re)
		small(t, re, n)
		for _, s := range stringsOf("ab", 4) {
			if want := regex.Matches(re, s); takes(n, s) != want || nfa.Accepts(n, s) != want {
				t.Fatalf("5.1: %q and %q: a match: %v, taken: %v, Accepts: %v", text, s, want, takes(n, s), nfa.Accepts(n, s))
			}
			sameRun(t, re, n, s, len(s)/3)
		}
	}
	if regexes < 1000 {
		t.Errorf("only %d of the texts are regexes", regexes)
	}
}

// randomText: a regex's text with at most so many leaves.
func randomText(r *rand.Rand, leaves int) string {
	if leaves < 2 {
		return []string{"a", "b", "[ab]", "[^a]", ".", "\\s", "\\x80", "()"}[r.Intn(8)]
	}
	k := 1 + r.Intn(leaves-1)
	left, right := randomText(r, k), randomText(r, leaves-k)
	switch r.Intn(5) {
	case 0, 1:
		return "(" + left + "|" + right + ")"
	case 2:
		return "(" + left + right + ")" + string("*+?"[r.Intn(3)])
	}
	return left + right
}

// 5.1, 5.5: larger regexes, classes of all kinds; half of the strings grow as long as they begin a match.
func TestCompileRandom(t *testing.T) {
	r := rand.New(rand.NewSource(54))
	const bytes = "aabb \n\x80c\x00"
	for range 1500 {
		re := taken(t, randomText(r, 1+r.Intn(25)))
		n := nfa.Compile(re)
		small(t, re, n)
		for kind := range 6 {
			s := ""
			for range 10 {
				next := bytes[r.Intn(len(bytes)):][:1]
				if begins, _ := regex.Begins(re, s+next); begins || kind%2 == 0 {
					s += next
				}
			}
			if want := regex.Matches(re, s); takes(n, s) != want || nfa.Accepts(n, s) != want {
				t.Fatalf("5.1: %v and %q: a match: %v", re, s, want)
			}
			sameRun(t, re, n, s, 0)
			sameRun(t, re, n, s, r.Intn(len(s)+1))
		}
	}
}

func TestCompileTexts(t *testing.T) {
	for _, c := range []struct {
		re, text     string
		at, end, far int
	}{
		{"[0-9]+", "12a", 0, 2, 3}, {"[0-9]+", "12", 0, 2, 3}, {"[0-9]+", "a12", 0, -1, 1}, {"[0-9]+", "a12", 3, -1, 4},
		{"()", "a", 0, 0, 0}, {"()", "a", 1, 1, 1}, {"()*", "a", 0, 0, 0}, {"()+", "", 0, 0, 0}, {"a()b", "ab", 0, 2, 2},
		{"a", "", 0, -1, 1}, {"a", "ab", 0, 1, 1}, {"a", "b", 0, -1, 1},
		{"ab|abcd", "abce", 0, 2, 4}, {"ab|abcd", "abc", 0, 2, 4}, {"(a|ab)(c|bcd)", "abcd", 0, 4, 4},
		{"\"[^\"\\n]*\"", "x\"é\" \"", 1, 5, 5}, {"\"[^\"\\n]*\"", "\"a\n\"", 0, -1, 3}, {"\"[^\"\\n]*\"", "\"a", 0, -1, 3},
		{".+", "ab\nc", 0, 2, 3}, {"[\\x80-\\xff]+", "\x80\xff\x7f", 0, 2, 3}, {"[^\\x00]", "\x00", 0, -1, 1},
	} {
		if e, f := nfa.Run(nfa.Compile(taken(t, c.re)), c.text, c.at); e != c.end || f != c.far {
			t.Errorf("5.5: %q over %q from %d on: %d, %d, want %d, %d", c.re, c.text, c.at, e, f, c.end, c.far)
		}
	}
}

// 5.1: as many nodes as a regex may have, of each kind.
func TestCompileLarge(t *testing.T) {
	for _, text := range []string{
		strings.Repeat("a", 63) + "b+", "a" + strings.Repeat("|b", 63), "a" + strings.Repeat("*", 127), "a" + strings.Repeat("+", 127),
		"a" + strings.Repeat("?", 127), "()" + strings.Repeat("+", 127), strings.Repeat("(a?", 32) + "b" + strings.Repeat(")+", 31) + ")", strings.Repeat("a*", 42),
	} {
		re := taken(t, text)
		if len(re) < 125 {
			t.Fatalf("%q has only %d nodes", text, len(re))
		}
		n := nfa.Compile(re)
		small(t, re, n)
		for _, s := range []string{"", "a", "b", "ab", "ba", "aab", strings.Repeat("a", 63) + "bb", strings.Repeat("a", 64)} {
			if want := regex.Matches(re, s); takes(n, s) != want || nfa.Accepts(n, s) != want {
				t.Fatalf("5.1: %q and %q: a match: %v", text, s, want)
			}
			sameRun(t, re, n, s, 0)
		}
	}
}

// 5.1: lists that are no regexes.
func TestCompileNoRegex(t *testing.T) {
	leaf := api.ReNode{Op: api.ReClass, Set: class("a"), A: -1, B: -1}
	long := []api.ReNode{leaf}
	for i := range api.MaxRegex {
		long = append(long, api.ReNode{Op: api.ReStar, A: i, B: -1})
	}
	for _, re := range [][]api.ReNode{
		nil, {}, {{}}, {{Op: 9, A: -1, B: -1}}, {{Op: api.ReClass, A: -1, B: -1}}, {leaf, leaf}, {{Op: api.ReStar, A: 0, B: -1}},
		{leaf, {Op: api.ReCat, A: -1, B: 0}}, {leaf, leaf, {Op: api.ReAlt, A: 1, B: 0}}, {leaf, {Op: api.RePlus, A: 1, B: -1}}, long,
	} {
		n := nfa.Compile(re)
		if !reflect.DeepEqual(n, api.Nfa{}) {
			t.Errorf("5.1: Compile(%v) = %+v", re, n)
		}
		if e, f := nfa.Run(n, "a", 1); nfa.Accepts(n, "") || nfa.Accepts(n, "a") || e != -1 || f != 1 {
			t.Errorf("5.1: the machine of no regex takes something, or looks: %d, %d", e, f)
		}
	}
	if re := long[:api.MaxRegex]; !nfa.Accepts(nfa.Compile(re), "aa") {
		t.Error("5.1: a regex of as many nodes as there may be")
	}
}

// Where ways are many and texts long, a call ends soon.
func TestCompileSoon(t *testing.T) {
	long := strings.Repeat("a", 1<<17)
	for _, text := range []string{
		"(a*)*(a*)*", "((a*)*(a*)*)*", "(a|a|a|aa)*", "((((a?)+)+)+)+", "(a?a?a?a?a?a?a?a?)*", "(()|a)*", strings.Repeat("(a+", 30) + strings.Repeat(")*", 30) + "*",
	} {
		n := nfa.Compile(taken(t, text))
		if e, f := nfa.Run(n, long+"b", 0); e != 1<<17 || f != 1<<17+1 || !nfa.Accepts(n, long) || nfa.Accepts(n, long+"b") {
			t.Errorf("5.5: %q over %d letters: %d, %d", text, len(long), e, f)
		}
	}
}

// scribble writes into all of a machine's lists, and into their spare room; it answers how often it met a number that it had written.
func scribble(n api.Nfa) int {
	met := 0
	write := func(l []int) {
		for i := range l[:cap(l)] {
			if l[:cap(l)][i] == 99999 {
				met++
			}
			l[:cap(l)][i] = 99999
		}
	}
	write(n.To)
	for _, free := range n.Free {
		write(free)
	}
	clear(n.On[:cap(n.On)])
	clear(n.Free[:cap(n.Free)])
	return met
}

// P2, P3: a machine is new memory, no two lists of it share any; a regex that is handed in is not changed and not kept.
func TestCompileMemory(t *testing.T) {
	leaf := api.ReNode{Op: api.ReClass, Set: class("z"), A: -1, B: -1}
	room := append(taken(t, "(a|b*)+(c?|d)*[e-g]"), leaf, leaf)
	before := slices.Clone(room)
	re := room[:len(room)-2]
	first, second := nfa.Compile(re), nfa.Compile(re)
	if !slices.Equal(room, before) {
		t.Error("P2: a regex that was handed in is changed")
	}
	if !reflect.DeepEqual(first, second) {
		t.Errorf("P3: two machines of one regex: %+v, %+v", first, second)
	}
	if met := scribble(first); met > 0 {
		t.Errorf("P2: lists of a machine share %d numbers", met)
	}
	clear(room)
	if !reflect.DeepEqual(second, nfa.Compile(before[:len(re)])) {
		t.Error("P2: a machine hangs on another one's memory, or on its regex's")
	}
}
