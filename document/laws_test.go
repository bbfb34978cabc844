package document_test

import (
	"math"
	"math/rand"
	"slices"
	"strings"
	"testing"

	"trellis/api"
	"trellis/parse"
)

// layout: blocks by indentation.
const layout = `language layout; skip /[ \t]+/; token NEWLINE /\n([ \t]*\n)*[ \t]*/ do measure; token INDENT empty when deeper do indent; token DEDENT empty when shallower do dedent; token DEDENT empty when ended, indented do drop; token NAME /[a-z]+/; rule file = line*; rule line = NAME NEWLINE | "if" NAME ":" NEWLINE INDENT line+ DEDENT;`

// heres: texts that come later.
const heres = `language heres; skip / +/; token HERE /<<[A-Z]+/ do enqueue 2; token NL /\n/; token BODY body when queued do dequeue; token w /[a-z]+/; rule s = line*; rule line = (w | HERE)* NL (BODY NL)*;`

// sample: a definition, texts of it, and what may come in their midst.
type sample struct {
	defn   string
	texts  []string
	pieces []string
}

// samples: languages with layout, bodies, delimiters, flags, several trees, and runs that end with too many tokens without a byte.
func samples() []sample {
	return []sample{
		{sums, []string{"1+2+3", "", " 12 + 3 "}, []string{"1", "+", "23", "+4", " ", "?"}},
		{layout, []string{"a\nif b:\n  c\n  if d:\n\te\nf\n", "if a:\n if b:\n  c\nd\n"}, []string{" ", "\n", "  ", "a", "if a:\n", "\t", ":", "\n  ", "?"}},
		{heres, []string{"<<A b <<B\nx\nA\nB\nc\n", "a\n\n<<X\nX\n"}, []string{"<<A", "A", "\n", "A\n", "B\n", "x", " ", "?"}},
		{`language l; mode str; skip / +/; token open /'+/ do enter str 0; token close delim in str do leave; token part /[^']|'/ in str; rule s = (open part* close)*;`, []string{"''x'y'' 'a'", "'''a''b'''"}, []string{"'", "''", "x", " ", "'''", strings.Repeat("'", 17)}},
		{`language l; flag in; token _a /a/ when noflag in do set in; token b /b/ when flag in do clear in; token _e empty when flag in; rule _s = (_a _e* b)*;`, []string{"abab"}, []string{"a", "b", "aa"}},
		{`language l; token _a /a/; token _e empty; rule s = (_a | _e)*;`, []string{"", "a"}, []string{"a", "b"}}, // ended by ErrLoop
	}
}

// changed: an edit of a text that may happen.
func changed(r *rand.Rand, text string, pieces []string) api.Edit {
	at := pick(r, r.Intn(len(text)+1), r.Intn(len(text)+1), r.Intn(len(text)+1), 0, len(text), -3, len(text)+3)
	e := api.Edit{At: at, Del: pick(r, 0, 0, 0, 1, 1, 2, r.Intn(len(text)+1), -1), Ins: pick(r, append(pieces, "")...)}
	if len(text) > 60 {
		e.Del = 30
	}
	switch r.Intn(30) {
	case 0:
		return api.Edit{At: r.Intn(len(text) + 1)}
	case 1:
		return api.Edit{At: math.MinInt, Del: r.Intn(3), Ins: e.Ins}
	case 2:
		return api.Edit{At: e.At, Del: math.MaxInt, Ins: e.Ins}
	case 3:
		return api.Edit{At: math.MaxInt, Del: math.MaxInt, Ins: e.Ins}
	case 4: // what is deleted comes again
		c := clamped(len(text), e)
		return api.Edit{At: c.At, Del: c.Del, Ins: text[c.At : c.At+c.Del]}
	}
	return e
}

// fruitful: of a few edits one behind which there are the most leaves; at times the first one. (Else most texts are refused near their beginning.)
func fruitful(r *rand.Rand, l api.Lang, text string, pieces []string) api.Edit {
	var best api.Edit
	most := -1
	for range pick(r, 1, 4, 6) {
		e := changed(r, text, pieces)
		behind, _ := plainBehind(text, e)
		x := parse.Parse(l, behind)
		n := len(x.Leaves)
		if x.Code == api.OK {
			n += 20
		}
		if n > most {
			best, most = e, n
		}
	}
	return best
}

// tooLong: what makes every text too long, unless most of it goes.
var tooLong = strings.Repeat("1", most+1)

// told: a call as it comes; the more edits there are to be, the rarer are others.
func told(t *testing.T, r *rand.Rand, p pair, pieces []string, edits int, seen map[string]int) {
	t.Helper()
	code := api.OK
	word := "edit"
	switch k := r.Intn(4 + edits); {
	case k == 0 && r.Intn(10) == 0:
		code, word = p.edit(t, api.Edit{At: r.Intn(9), Del: r.Intn(2), Ins: tooLong}), "too long"
	case k < 2:
		code, word = p.undo(t), "undo"
	case k == 2:
		code, word = p.redo(t), "redo"
	default:
		p.edit(t, fruitful(r, p.plain.l, p.Text(), pieces))
	}
	if code != api.OK {
		word += ", refused"
	}
	seen[word]++
	if len(p.plain.undo) == 64 {
		seen["full"]++
	}
	if len(p.plain.redo) > 1 {
		seen["several to be done again"]++
	}
	if len(p.plain.redo) > 0 && word == "redo" {
		seen["redo, and more left"]++
	}
	if p.plain.result.Code == api.OK {
		seen["OK"]++
	} else {
		seen["no sentence"]++
	}
}

// 23.1 to 23.7, P8: scripts of calls as they come; each answer is held against the words.
func TestScripts(t *testing.T) {
	r := rand.New(rand.NewSource(231))
	seen := map[string]int{}
	for _, s := range samples() {
		l := loaded(t, s.defn)
		for _, edits := range []int{1, 1, 2, 3, 20} {
			for _, text := range s.texts {
				p := opened(t, l, text)
				for range 100 * (1 + edits/4) {
					told(t, r, p, s.pieces, edits, seen)
				}
			}
		}
	}
	enough(t, 50, seen, "edit", "undo", "redo", "undo, refused", "redo, refused", "full", "several to be done again", "redo, and more left", "OK", "no sentence")
	enough(t, 10, seen, "too long, refused")
}

// 23.1 to 23.7: all short scripts.
func TestAllShort(t *testing.T) {
	l := loaded(t, sums)
	const kinds, length = 5, 6
	scripts := 1
	for range length {
		scripts *= kinds
	}
	for script := range scripts {
		p := opened(t, l, "1")
		for range length {
			switch script % kinds {
			case 0:
				p.undo(t)
			case 1:
				p.redo(t)
			case 2:
				p.edit(t, api.Edit{At: 1, Ins: "+2"})
			case 3:
				p.edit(t, api.Edit{At: 0, Del: 2, Ins: "3"})
			case 4:
				p.edit(t, api.Edit{At: 2, Del: -1}) // nothing is done
			}
			script /= kinds
		}
	}
}

// shape: the kinds of the calls of a script: 'e', 'u', 'r'.
func anyShape(r *rand.Rand, length int) string {
	out := make([]byte, length)
	for i := range out {
		out[i] = "eeeuur"[r.Intn(6)]
	}
	return string(out)
}

// counts: what a shape leads to: the version, how many edits can be taken back, how many can be done again.
type counts struct{ version, undo, redo int }

// shapeCounts: and the place in the shape of the edit that has made the text that there is then; -1: it is the first one.
func shapeCounts(shape string) (counts, int) {
	var c counts
	made := []int{-1} // by edit that can be taken back what its text was made by; those that can be done again behind
	for i, call := range shape {
		switch {
		case call == 'e':
			made = append(made[:c.undo+1], i)
			c = counts{c.version + 1, c.undo + 1, 0}
		case call == 'u' && c.undo > 0:
			c = counts{c.version + 1, c.undo - 1, c.redo + 1}
		case call == 'r' && c.redo > 0:
			c = counts{c.version + 1, c.undo + 1, c.redo - 1}
		}
	}
	return c, made[c.undo]
}

// shaped: a document of the shape, which has at last this text.
func shaped(t *testing.T, r *rand.Rand, l api.Lang, shape, text string, s sample) pair {
	t.Helper()
	_, maker := shapeCounts(shape)
	first := pick(r, s.texts...)
	if maker < 0 {
		first = text
	}
	p := opened(t, l, first)
	for i, call := range shape {
		switch {
		case i == maker:
			p.edit(t, api.Edit{Del: most, Ins: text})
		case call == 'e':
			p.edit(t, changed(r, p.Text(), s.pieces))
		case call == 'u':
			p.undo(t)
		default:
			p.redo(t)
		}
	}
	return p
}

// alike: do two documents answer alike? Past is not asked.
func alike(t *testing.T, a, b pair, stepped bool) {
	t.Helper()
	if a.Version() != b.Version() || a.Text() != b.Text() || !same(a.Result(), b.Result()) || stepped && !slices.Equal(a.Changed(), b.Changed()) {
		t.Fatalf("23.7: %s: at %d and %d: %q, %+v, %v and %q, %+v, %v", a.plain.l.Name, a.Version(), b.Version(), a.Text(), a.Result(), a.Changed(), b.Text(), b.Result(), b.Changed())
	}
}

// checkTwins: 23.7 of two documents that have come to one text by other steps.
func checkTwins(t *testing.T, r *rand.Rand, a, b pair, pieces []string) {
	t.Helper()
	alike(t, a, b, false)
	for i := range r.Intn(4) {
		e := changed(r, a.Text(), pieces)
		if r.Intn(20) == 0 {
			e.Ins, e.Del = tooLong, 0
		}
		stats, code := a.Edit(e)
		if s, c := b.Edit(e); s != stats || c != code {
			t.Fatalf("23.7: %s: %q: %+v, %d and %+v, %d", a.plain.l.Name, a.Text(), stats, code, s, c)
		}
		if code != api.OK && i == 0 {
			return
		}
		alike(t, a, b, true)
	}
	if r.Intn(2) == 0 {
		if x, y := a.Undo(), b.Undo(); x != y || a.Version() != b.Version() {
			t.Fatalf("23.7: Undo: %d and %d", x, y)
		}
	} else if x, y := a.Redo(), b.Redo(); x != y || a.Version() != b.Version() {
		t.Fatalf("23.7: Redo: %d and %d", x, y)
	}
}

// 23.7: a document is its text, whatever steps led there.
func TestTwins(t *testing.T) {
	r := rand.New(rand.NewSource(237))
	byCounts := map[counts][]string{}
	var shapes []string
	for range 3000 {
		shape := anyShape(r, r.Intn(12))
		c, _ := shapeCounts(shape)
		shapes, byCounts[c] = append(shapes, shape), append(byCounts[c], shape)
	}
	again := 0
	for _, s := range samples() {
		l := loaded(t, s.defn)
		for range 150 {
			shape := pick(r, shapes...)
			c, _ := shapeCounts(shape)
			other := pick(r, byCounts[c]...)
			text := pick(r, s.texts...) + pick(r, s.pieces...)
			a, b := shaped(t, r, l, shape, text, s), shaped(t, r, l, other, text, s)
			if got := (counts{a.Version(), len(a.plain.undo), len(a.plain.redo)}); got != c || a.Text() != text || b.Text() != text {
				t.Fatalf("%s leads to %+v, %q, want %+v, %q", shape, got, a.Text(), c, text)
			}
			if c.redo > 0 && shape != other {
				again++
			}
			checkTwins(t, r, a, b, s.pieces)
		}
	}
	if again < 50 {
		t.Errorf("only %d twins with something to be done again", again)
	}
}

// 23.8, P12: as many Undos as Redos lead to the same text and result as none; and on the way each text comes again.
func TestThereAndBack(t *testing.T) {
	r := rand.New(rand.NewSource(238))
	seen := map[string]int{}
	for _, s := range samples() {
		l := loaded(t, s.defn)
		for range 25 {
			p := opened(t, l, pick(r, s.texts...))
			for range r.Intn(40) {
				told(t, r, p, s.pieces, pick(r, 1, 3, 90), seen)
			}
			text, result := p.Text(), p.Result()
			var texts []string
			var results []api.Result
			most := len(p.plain.undo)
			for range r.Intn(most + 1) {
				texts, results = append(texts, p.Text()), append(results, p.Result())
				p.undo(t)
			}
			for i := len(texts) - 1; i >= 0; i-- {
				p.redo(t)
				if p.Text() != texts[i] || !same(p.Result(), results[i]) {
					t.Fatalf("23.8: %s: %q, want %q", l.Name, p.Text(), texts[i])
				}
			}
			if p.Text() != text || !same(p.Result(), result) || len(p.plain.undo) != most {
				t.Fatalf("23.8: %s: %q, want %q", l.Name, p.Text(), text)
			}
		}
	}
}
