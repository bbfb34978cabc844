package regex_test

import (
	"math/rand"
	"strings"
	"testing"

	"trellis/api"
	"trellis/regex"
)

// ends: where what the node at i matches from at on may end, as bits: by the meaning of a tree, part by part.
func ends(re []api.ReNode, i int, s string, at int) uint64 {
	n := re[i]
	switch n.Op {
	case api.ReClass:
		if at < len(s) && n.Set.Has(s[at]) {
			return 1 << (at + 1)
		}
		return 0
	case api.ReEmpty:
		return 1 << at
	case api.ReCat:
		return behind(re, n.B, s, ends(re, n.A, s, at))
	case api.ReAlt:
		return ends(re, n.A, s, at) | ends(re, n.B, s, at)
	}
	all := ends(re, n.A, s, at)
	if n.Op != api.ReOpt {
		for more := all; more != 0; {
			more = behind(re, n.A, s, more) &^ all
			all |= more
		}
	}
	if n.Op != api.RePlus {
		all |= 1 << at
	}
	return all
}

// behind: the ends of the node from each of those places on.
func behind(re []api.ReNode, i int, s string, from uint64) uint64 {
	var all uint64
	for at := range len(s) + 1 {
		if from>>at&1 == 1 {
			all |= ends(re, i, s, at)
		}
	}
	return all
}

func means(re []api.ReNode, s string) bool {
	return ends(re, len(re)-1, s, 0)>>len(s)&1 == 1
}

// stringsOf: all strings over those bytes of at most n bytes, the shorter ones first.
func stringsOf(over string, n int) []string {
	all := []string{""}
	last := all
	for range n {
		var longer []string
		for _, s := range last {
			for i := range len(over) {
				longer = append(longer, s+over[i:i+1])
			}
		}
		all = append(all, longer...)
		last = longer
	}
	return all
}

// agrees: 4.3 and 4.5 of a tree and all strings of at most n bytes: what begins or is open is told from those that have some bytes more.
func agrees(t *testing.T, re []api.ReNode, over string, n, more int) {
	t.Helper()
	open := map[string]int{}
	whole := map[string]int{}
	for _, s := range stringsOf(over, n+more) {
		if !means(re, s) {
			continue
		}
		whole[s] = 1
		for i := range len(s) {
			open[s[:i]] = 1
		}
	}
	if regex.Nullable(re) != (whole[""] == 1) {
		t.Fatalf("4.3: Nullable(%v) = %v", re, whole[""] == 0)
	}
	for _, s := range stringsOf(over, n) {
		if regex.Matches(re, s) != (whole[s] == 1) {
			t.Fatalf("4.3: Matches(%v, %q) = %v", re, s, whole[s] == 0)
		}
		b, o := regex.Begins(re, s)
		if o != (open[s] == 1) || b != (open[s]+whole[s] > 0) {
			t.Fatalf("4.3: Begins(%v, %q) = %v, %v", re, s, b, o)
		}
	}
}

func TestMatchesAllSmall(t *testing.T) {
	for n, trees := range treesOf(5, leaf("a"), leaf("ab"), empty()) {
		for _, re := range trees {
			agrees(t, re, "ab", 4, (n+1)/2)
		}
	}
}

func TestMatchesRandom(t *testing.T) {
	r := rand.New(rand.NewSource(43))
	for range 300 {
		n := 6 + r.Intn(5)
		re := randomTree(r, n, func() api.ReNode { return leaf([]string{"a", "b", "ab"}[r.Intn(3)]) })
		agrees(t, re, "ab", 4, (n+1)/2)
	}
}

// 4.3: against the tree's meaning, with classes of all kinds; the strings grow as long as they begin a match.
func TestMatchesBytes(t *testing.T) {
	r := rand.New(rand.NewSource(45))
	for range 100 {
		re := randomTree(r, 1+r.Intn(40), func() api.ReNode { return randomClass(r) })
		s := ""
		for len(s) < 12 {
			if got := regex.Matches(re, s); got != means(re, s) {
				t.Fatalf("4.3: Matches(%v, %q) = %v", re, s, got)
			}
			on := further(t, re, s)
			if len(on) == 0 {
				break
			}
			s += on[r.Intn(len(on))]
		}
	}
}

// further: 4.5 of a tree and a string; the bytes with which, behind it, the tree begins.
func further(t *testing.T, re []api.ReNode, s string) []string {
	t.Helper()
	begins, open := regex.Begins(re, s)
	if begins != (open || regex.Matches(re, s)) {
		t.Fatalf("4.5: Begins(%v, %q) = %v, %v", re, s, begins, open)
	}
	var on []string
	for b := range 256 {
		next := string([]byte{byte(b)})
		if goesOn, _ := regex.Begins(re, s+next); goesOn {
			on = append(on, next)
		}
	}
	if open != (len(on) > 0) {
		t.Fatalf("4.5: Begins(%v, %q) is open: %v, with a byte behind it: %q", re, s, open, on)
	}
	return on
}

func TestMatchesTexts(t *testing.T) {
	for _, c := range []struct {
		text, s             string
		whole, begins, open bool
	}{
		{"(a|ab)(c|bcd)", "abcd", true, true, false},
		{"(a|ab)(c|bcd)", "ac", true, true, false},
		{"(a|ab)(c|bcd)", "abc", true, true, true},
		{"(a|ab)(c|bcd)", "abcdd", false, false, false},
		{"ab*", "", false, true, true},
		{"ab*", "a", true, true, true},
		{"ab*", "ab", true, true, true},
		{"ab*", "b", false, false, false},
		{"ab", "a", false, true, true},
		{"ab", "ab", true, true, false},
		{"ab", "abc", false, false, false},
		{"()", "", true, true, false},
		{"()*+?", "", true, true, false},
		{"()*", "a", false, false, false},
		{"a()b", "ab", true, true, false},
		{".", "\n", false, false, false},
		{".", "\x00", true, true, false},
		{".+", "\xff\x80 \r", true, true, true},
		{"\\s+", "\n\r\t ", true, true, true},
		{"[^a]", "\xff", true, true, false},
		{"\"[^\"\\n]*\"", "\"a", false, true, true},
		{"\"[^\"\\n]*\"", "\"a\"", true, true, false},
		{"\"[^\"\\n]*\"", "\"a\n", false, false, false},
	} {
		re := taken(t, c.text)
		if regex.Matches(re, c.s) != c.whole {
			t.Errorf("4.3: Matches(%q, %q) = %v", c.text, c.s, !c.whole)
		}
		if b, o := regex.Begins(re, c.s); b != c.begins || o != c.open {
			t.Errorf("4.3: Begins(%q, %q) = %v, %v", c.text, c.s, b, o)
		}
	}
}

// 4.3: trees with all the nodes that there may be, a class at each of their places.
func TestMatchesLarge(t *testing.T) {
	re := taken(t, strings.Repeat("a", 63)+"b+")
	for n := range 63 {
		b, o := regex.Begins(re, strings.Repeat("a", n))
		if m := regex.Matches(re, strings.Repeat("a", n)); m || !b || !o {
			t.Fatalf("4.3: %d letters: %v, %v, %v", n, m, b, o)
		}
	}
	row := strings.Repeat("a", 63)
	for s, want := range map[string]bool{row: false, row + "b": true, row + "bb": true, row + "a": false, row[1:] + "b": false} {
		if regex.Matches(re, s) != want {
			t.Errorf("4.3: Matches of 63 a and b+, %q = %v", s, !want)
		}
	}
	last := "()" + strings.Repeat("|()", 61) + "|a?c" // the last class stands at the place 126
	if !regex.Matches(taken(t, last), "ac") || regex.Matches(taken(t, last), "a") {
		t.Error("4.3: a class at the end of a large tree")
	}
}

// Every call ends soon, where ways are many and strings long.
func TestMatchesSoon(t *testing.T) {
	long := strings.Repeat("a", 1<<17)
	for _, text := range []string{
		"(a*)*(a*)*", "((a*)*(a*)*)*", "(a|a|a|aa)*", "((((a?)+)+)+)+", "(a?a?a?a?a?a?a?a?)*", "(()|a)*",
		"a*" + strings.Repeat("*", 120), strings.Repeat("(a+", 30) + strings.Repeat(")*", 30) + "*",
	} {
		re := taken(t, text)
		if b, o := regex.Begins(re, long); !b || !o || !regex.Matches(re, long) {
			t.Errorf("4.3: %q does not match %d letters", text, len(long))
		}
		if b, o := regex.Begins(re, long+"b"); b || o || regex.Matches(re, long+"b") {
			t.Errorf("4.3: %q matches %d letters and a b", text, len(long))
		}
	}
}
