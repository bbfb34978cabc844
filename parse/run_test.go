package parse_test

import (
	"math/rand"
	"slices"
	"testing"

	"trellis/api"
	"trellis/parse"
	"trellis/scan"
	"trellis/state"
	"trellis/tree"
)

// same: with nil and empty lists alike.
func same(a, b api.Result) bool {
	return a.Code == b.Code && a.At == b.At && a.Want == b.Want && a.Roots == b.Roots && slices.Equal(a.Leaves, b.Leaves) && slices.Equal(a.Nodes, b.Nodes)
}

// checkYield: 16.7 of a result, and that its nodes lie in one another.
func checkYield(t *testing.T, x tongue, text string, r api.Result) {
	t.Helper()
	from, ends := places(r.Leaves)
	last := -1
	for at, n := range r.Nodes {
		if n.Leaf < -1 || n.Leaf >= len(r.Leaves) || n.Leaf >= 0 && (n.Leaf <= last || n.From != from[n.Leaf] || n.To != ends[n.Leaf+1]) {
			t.Fatalf("16.7: %s: %q: the node %+v, behind the leaf %d", x.text, text, n, last)
		}
		last = max(last, n.Leaf)
		if p := tree.Parent(r.Nodes, at); p >= 0 && (n.From < r.Nodes[p].From || n.To > r.Nodes[p].To) {
			t.Fatalf("16.7: %s: %q: %+v is a child of %+v", x.text, text, n, r.Nodes[p])
		}
	}
}

// checkSteps: 16.5 of a result; and with OK, or another code, that the leaves are all of the text, or all ahead of the refusal.
func checkSteps(t *testing.T, x tongue, text string, r api.Result) {
	t.Helper()
	s, at := state.Start(), 0
	for i, f := range r.Leaves {
		step := scan.Next(x.lang.Rules, s, text, at, f.Valid)
		if step.Code != api.OK || f != leafOf(step, at, f.Valid) {
			t.Fatalf("16.5: %s: %q: the leaf %d is %+v, the step %+v", x.text, text, i, f, step)
		}
		s, at = step.After, step.To
	}
	step := scan.Next(x.lang.Rules, s, text, at, r.Want)
	switch {
	case r.Code == api.OK:
		if at != len(text) || r.Leaves[len(r.Leaves)-1].Term != 0 {
			t.Fatalf("16.5: %s: %q: the leaves end at %d", x.text, text, at)
		}
	case r.Code == api.ErrLoop || r.Code == api.ErrLeaves:
		if step.Code != api.OK || step.Term == 0 || step.From != r.At {
			t.Fatalf("16.5: %s: %q: %d at %d, the step %+v", x.text, text, r.Code, r.At, step)
		}
	default:
		if step.From != r.At || step.Code != r.Code && (step.Code != api.ErrNone || r.Code != api.ErrSyntax) {
			t.Fatalf("16.5: %s: %q: %d at %d, the step %+v", x.text, text, r.Code, r.At, step)
		}
	}
}

// checkText: the run of a text by the document's words, and what holds of it.
func checkText(t *testing.T, x tongue, text string) api.Result {
	t.Helper()
	r := parse.Parse(x.lang, text)
	want := plainRun(x, text)
	nodes, valid, ok := parse.Follow(x.lang, r.Leaves)
	if !ok || valid != r.Want {
		t.Fatalf("16.6: %s: %q: Follow of the leaves %+v: %x, %v", x.text, text, r.Leaves, valid, ok)
	}
	want.Nodes, want.Roots = nodes, tree.Roots(nodes)
	if !same(r, want) {
		t.Fatalf("16.1, 16.6: %s: Parse(%q) = %+v, want %+v", x.text, text, r, want)
	}
	checkSteps(t, x, text, r)
	checkYield(t, x, text, r)
	return r
}

// written: a text of a language of single letters: tokens and what is passed over.
func written(r *rand.Rand, l api.Lang, terms []int) string {
	out := ""
	for _, n := range terms {
		name := l.Gram.Terms[n].Name
		out += pick(r, "", "", " ", "  ") + name[len(name)-1:]
	}
	return out + pick(r, "", "", " ")
}

// spoilt: with other bytes here and there.
func spoilt(r *rand.Rand, text string, pieces []string) string {
	for range r.Intn(4) {
		at := r.Intn(len(text) + 1)
		text = text[:at] + pick(r, append(pieces, "")...) + text[min(len(text), at+r.Intn(3)):]
	}
	return text
}

// P5, P6, P7: texts of languages as they come; a sentence's tree is that of its derivation.
func TestTexts(t *testing.T) {
	r := rand.New(rand.NewSource(161))
	seen := map[string]int{}
	for range 1500 {
		x := anyTongue(r)
		for range 6 {
			g := newGrower(r, x.lang)
			root := g.grow(len(x.lang.Gram.Terms), r.Intn(9))
			text := written(r, x.lang, g.terms)
			got := checkText(t, x, text)
			if n := len(got.Leaves) - 1; got.Code != api.OK || n != len(g.terms) {
				t.Fatalf("P5: %s: %q: %d at %d", x.text, text, got.Code, got.At)
			} else if want := plainNodes(x.lang, root, got.Leaves[:n], n+1); !slices.Equal(got.Nodes, want) {
				t.Fatalf("P6: %s: %q: %s, want %s", x.text, text, tree.Text(got.Nodes), tree.Text(want))
			}
			if len(g.terms) > 5 {
				seen["sentences"]++
			}
			if got = checkText(t, x, spoilt(r, text, []string{"a", "b", "c", "x", "y", " ", "?"})); got.Code == api.ErrSyntax && len(got.Leaves) > 2 {
				seen["refused"]++
			}
		}
	}
	enough(t, 500, seen, "sentences", "refused")
}

// sample: a definition, texts of it, and what may come in their midst.
type sample struct {
	defn   string
	texts  []string
	pieces []string
}

func samples() []sample {
	return []sample{
		{sums, []string{"1+(2+3)", "((1))", " 12 + 3 ", "1+2+3+4"}, []string{"1", "+", "(", ")", " ", "?"}},
		{layout, []string{"a\n  b;\nc;", "a\n b\n  c\n   d;\n  e;\nf;", "a\n  b;"}, []string{"a", ";", "\n", "\n ", "\n  ", "\n   ", "?"}},
		{quotes, []string{"''x'y'' 'a'", "'''a''b'''", ""}, []string{"'", "''", "x", " ", "'''"}},
		{little, []string{
			"if a:\n  b = 1\nelse:\n  while c:\n    pass\nd(1, \"x${f(\"y\")}\")\n", "s = <<EOF + <<X\nq\nEOF\nX\n", "def f(a, b):\n  # c\n\n  return a * 2 - (b)\n",
			"x = \"$a${\"${b}\"}\"\nif x:\n\treturn\n", "if a:\n  if b:\n    c\n",
		}, []string{"\n", "\n  ", "\n    ", "\"", "${", "}", "<<E", "E\n", "a", "1", "(", ")", "pass", ":", "if a:\n  ", "$", "\t", "?"}},
		{"language l; flag in; token _a /a/ when noflag in do set in; token b /b/ when flag in do clear in; token _e empty when flag in; rule s = (_a _e* b)*;", []string{"ab", "abab", ""}, []string{"a", "b", "aa"}},
		{"language l; skip / /; token a /a/; token e empty; token _z empty when ended; rule s = (a e)* (\".\" _z)?;", []string{"a a a", "aa .", " . "}, []string{"a", " ", ".", "b"}},
		{"language l; mode m open; token o \"<\" do enter m; token c \">\" do leave; token h /[A-Z]+/ do enqueue 0; token b body do dequeue; token _n /\\n/; rule s = (o | c | h | b | _n)*;",
			[]string{"<>A\nA\n", "A\nB\nx\nA\nB", times(16, "<") + "A\nA", times(8, "A\n")}, []string{"<", ">", "A\n", "B\n", times(17, "A"), times(9, "C\n")}},
		{"language l; skip /\\n */ do measure; token i empty when deeper do indent; token a /a+/; rule s = (a | i)*;", []string{"a\n a\n  aa", "a"}, []string{"\n", "\n  ", "a", times(3, " ")}},
	}
}

// P5, P7: texts with layout, bodies, modes and flags, and others like them, ended by all kinds of refusals.
func TestSamples(t *testing.T) {
	r := rand.New(rand.NewSource(162))
	seen := map[string]int{}
	for _, s := range samples() {
		x := loaded(t, s.defn)
		for _, text := range s.texts {
			checkText(t, x, text)
			for end := range text {
				checkText(t, x, text[:end])
			}
			for range 120 {
				switch got := checkText(t, x, spoilt(r, text, s.pieces)); got.Code {
				case api.OK:
					seen["OK"]++
				case api.ErrSyntax:
					seen["ErrSyntax"]++
				case api.ErrLoop:
					seen["ErrLoop"]++
				default:
					seen["an action"]++
				}
			}
		}
	}
	enough(t, 50, seen, "OK", "ErrSyntax", "ErrLoop", "an action")
}

// P5, P7: all short texts.
func TestAllShort(t *testing.T) {
	for _, c := range []struct {
		defn, letters string
		most          int
	}{{sums, "1+( ", 5}, {sums, "1)+(", 5}, {layout, "a;\n ", 6}, {quotes, "'x ", 7}, {little, "a:\n\"", 4}, {little, "=1\n +", 4}} {
		x := loaded(t, c.defn)
		var all func(text string)
		all = func(text string) {
			checkText(t, x, text)
			for _, b := range c.letters {
				if len(text) < c.most {
					all(text + string(b))
				}
			}
		}
		all("")
	}
}
