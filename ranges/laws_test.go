package ranges_test

import (
	"math"
	"math/rand"
	"slices"
	"strings"
	"testing"

	"trellis/api"
	"trellis/edit"
	"trellis/incr"
	"trellis/load"
	"trellis/parse"
	"trellis/ranges"
)

// little: the scanning of the definition of doc/29-trellis.md, and nearly all of its rules.
const little = `language little; mode str; mode code open;
skip /[ \t]+/; skip /#[^\n]*/;
token NEWLINE /\n/ when queued;
token NEWLINE /\n([ \t]*(#[^\n]*)?\n)*[ \t]*/ when unqueued do measure;
token INDENT empty when deeper do indent;
token DEDENT empty when shallower do dedent;
token DEDENT empty when ended, indented do drop;
token HERE /<<[A-Z]+/ do enqueue 2;
token BODY body when queued do dequeue;
token QUOTE /"/ do enter str;
token CHARS /[^"$\n]+/ in str; token CHARS /$/ in str;
token OPEN /${/ in str do enter code;
token CLOSE /}/ in code do leave;
token END /"/ in str do leave;
token NUMBER /[0-9]+/; token NAME /[a-z_]+/;
rule file = _statement*;
rule _statement = simple | branch | loop;
rule simple = _small NEWLINE (text: BODY NEWLINE)*;
rule _small = assign | _expr | "pass";
rule assign = target: NAME "=" value: _expr;
rule branch = "if" test: _expr then: block ("else" other: block)?;
rule loop = "while" test: _expr block;
rule block = ":" NEWLINE INDENT _statement+ DEDENT;
rule _expr = sum | _atom;
rule sum = left: _expr op: ("+" | "-") right: _atom;
rule _atom = NAME | NUMBER | string | here | call | "(" _expr ")";
rule call = function: NAME "(" (_expr ("," _expr)*)? ")";
rule here = HERE;
rule string = QUOTE (CHARS | hole)* END;
rule hole = OPEN _expr CLOSE;`

// sample: a definition, texts of it, and what may come in their midst.
type sample struct {
	defn   string
	texts  []string
	pieces []string
}

// samples: languages whose trees have all that a tree can have: hidden parts, other names, nodes without a byte, no root and several.
func samples() []sample {
	return []sample{
		{sums, []string{"1+(2+3)", "((1))", " 12 + 3 ", "1+2+3+4"}, []string{"1", "+", "(", ")", " ", "?"}},
		{layout, []string{"a\nif b:\n  c\n  if d:\n\te\nf\n", "if a:\n if b:\n  c\nd\n"}, []string{" ", "\n", "  ", "a", "if a:\n", "\t", ":", "\n  ", "?"}},
		{heres, []string{"<<A b <<B\nx\nA\nB\nc\n", "a\n\n<<X\nX\n", "<<A\nA\n<<A\nA\n"}, []string{"<<A", "A", "\n", "A\n", "B\n", "x", " ", "?"}},
		{little, []string{
			"if a:\n  b = 1\nelse:\n  while c:\n    pass\nd(1, \"x${f(\"y\")}\")\n", "s = <<EOF + <<X\nq\nEOF\nX\nt\n", "x = \"$a${\"${b}\"}\"\nif x:\n\tpass\n", "if a:\n  if b:\n    c\n",
		}, []string{"\n", "\n  ", "\n    ", "\"", "${", "}", "<<E", "EOF", "E\n", "a", "1", "(", ")", "pass", ":", "if a:\n  ", "$", "\t", "#", "?"}},
		{ends, []string{"abb1", "a b2", "h3", " h 4 "}, []string{"1", "2", "3", "4", "a", "b", "h", " "}},
		{words, []string{"if a #5 [[]] b", "i%if%f if iff", "#5#55[ ]a"}, []string{"i", "f", "if", " ", "%", "#", "5", "[", "]", "[]"}},
		{`language l; skip / /; token a /a/; rule _s = (e a)* "."?; rule e = "-"?;`, []string{"a", "-a-aa", " - a -a."}, []string{"a", "-", ".", " ", "?"}}, // several roots, or none; some without a byte
		{`language l; token _a /a/; token b /b/; rule _s = (_a | p)*; rule p = "(" _t @ in ")"; rule _t = (_a | b)*;`, []string{"aa", "(ab)a()", "a(bab)"}, []string{"a", "b", "(", ")", "()", "?"}},
		{`language l; mode str; skip / +/; token open /'+/ do enter str 0; token close delim in str do leave; token part /[^']|'/ in str; rule s = (open part* close)*;`, []string{"''x'y'' 'a'", "'''a''b'''", "'a' ''b''"}, []string{"'", "''", "x", " ", "'''", strings.Repeat("'", 17)}},
		{`language l; token _a /a/; token _e empty; rule s = (_a | _e)*;`, []string{"", "a", "aa"}, []string{"a", "b", "aa"}}, // ended by ErrLoop
	}
}

// anEdit: an edit of a text that may happen.
func anEdit(r *rand.Rand, text string, pieces []string) api.Edit {
	at := pick(r, r.Intn(len(text)+1), r.Intn(len(text)+1), r.Intn(len(text)+1), 0, len(text), -3, len(text)+3)
	e := api.Edit{At: at, Del: pick(r, 0, 0, 0, 1, 1, 2, r.Intn(len(text)+1), -1), Ins: pick(r, append(pieces, "", "")...)}
	switch r.Intn(25) {
	case 0:
		return api.Edit{At: r.Intn(len(text) + 1)}
	case 1:
		return api.Edit{At: math.MinInt, Del: r.Intn(3), Ins: e.Ins}
	case 2:
		return api.Edit{At: e.At, Del: math.MaxInt, Ins: e.Ins}
	case 3:
		return api.Edit{At: math.MaxInt, Del: math.MaxInt, Ins: e.Ins}
	case 4: // what is deleted comes again
		c := edit.Clamp(len(text), e)
		return api.Edit{At: c.At, Del: c.Del, Ins: text[c.At : c.At+c.Del]}
	}
	return e
}

// fruitful: of a few edits one behind which there are the most leaves; at times the first one. (Else most texts are refused near their beginning.)
func fruitful(r *rand.Rand, l api.Lang, text string, pieces []string) api.Edit {
	var best api.Edit
	most := -1
	for range pick(r, 1, 4, 8) {
		e := anEdit(r, text, pieces)
		behind, _ := edit.Apply(text, e)
		if n := len(parse.Parse(l, behind).Leaves); n > most {
			best, most = e, n
		}
	}
	return best
}

// count: what kinds of bytes and ranges an edit has made.
func count(seen map[string]int, l api.Lang, text, behind string, e api.Edit, changed []api.Range) {
	old, now := parse.Parse(l, text), parse.Parse(l, behind)
	word := func(r api.Result) string {
		if r.Code == api.OK {
			return "OK"
		}
		return "refused"
	}
	seen[word(old)+", then "+word(now)]++
	if len(changed) > 1 {
		seen["several ranges"]++
	}
	was, is, in := plainTokens(len(text), old), plainTokens(len(behind), now), inside(len(behind), changed)
	for at, from := range plainOrigins(len(text), e) {
		names := from >= 0 && slices.Equal(plainNames(old, from), plainNames(now, at))
		switch {
		case from < 0:
			seen["new"]++
		case was[from] != is[at] && names:
			seen["another token alone"]++
		case was[from] == is[at] && !names:
			seen["other names alone"]++
		case !in[at] && is[at] < 0:
			seen["as it was, in none"]++
		case !in[at]:
			seen["as it was"]++
		}
	}
}

// script: edits, each of what the one ahead of it left.
func script(t *testing.T, r *rand.Rand, l api.Lang, text string, pieces []string, steps int, seen map[string]int) {
	t.Helper()
	for range steps {
		e := fruitful(r, l, text, pieces)
		if len(text) > 80 && r.Intn(2) == 0 {
			e = api.Edit{At: r.Intn(40), Del: 40}
		}
		behind, changed := check(t, l, text, e)
		count(seen, l, text, behind, e, changed)
		check(t, l, behind, edit.Invert(text, e))
		checkChains(t, l, behind, parse.Parse(l, behind))
		text = behind
	}
}

// 19.1 to 19.3, P11: scripts of edits.
func TestScripts(t *testing.T) {
	r := rand.New(rand.NewSource(193))
	seen := map[string]int{}
	for _, s := range samples() {
		l := loaded(t, s.defn)
		for range 10 {
			for _, text := range s.texts {
				script(t, r, l, text, s.pieces, 12, seen)
			}
		}
	}
	enough(t, 50, seen, "OK, then OK", "OK, then refused", "refused, then OK", "refused, then refused", "several ranges", "new", "another token alone", "other names alone", "as it was, in none", "as it was")
}

// 19.4: nothing done, nothing changed: wherever it is not done, whatever the result.
func TestNothingDone(t *testing.T) {
	for _, s := range samples() {
		l := loaded(t, s.defn)
		for _, text := range append(s.texts, "", "?", s.texts[0]+"?", s.texts[0][:len(s.texts[0])/2]) {
			r := parse.Parse(l, text)
			edits := []api.Edit{{At: math.MinInt, Del: math.MinInt}, {At: math.MaxInt, Del: math.MaxInt}, {At: len(text), Del: 9}, {Del: -1}}
			for at := range len(text) + 1 {
				edits = append(edits, api.Edit{At: at})
			}
			for _, e := range edits {
				if got := ranges.Changed(len(text), r, e, r); len(got) != 0 {
					t.Fatalf("19.4: %s: %q, %+v: %v", l.Name, text, e, got)
				}
			}
			for from := range len(text) { // and if something is done, it is just the new bytes: all else is the same result
				for to := from + 1; to <= len(text); to++ {
					got := ranges.Changed(len(text), r, api.Edit{At: from, Del: to - from, Ins: text[from:to]}, r)
					if !slices.Equal(got, []api.Range{{From: from, To: to}}) {
						t.Fatalf("19.2: %s: %q, %d to %d again: %v", l.Name, text, from, to, got)
					}
				}
			}
		}
	}
}

// colour: that of the innermost name that has one.
func colour(names []string, classes map[string]int) int {
	out := 0
	for _, x := range names {
		if classes[x] != 0 {
			out = classes[x]
		}
	}
	return out
}

// 19.5: what is asked of a byte by its names alone.
func TestColours(t *testing.T) {
	r := rand.New(rand.NewSource(195))
	kept, unlike := 0, 0
	for _, s := range samples() {
		l := loaded(t, s.defn)
		for range 150 {
			text := pick(r, s.texts...)
			e := fruitful(r, l, text, s.pieces)
			behind, changed := check(t, l, text, e)
			old, now := parse.Parse(l, text), parse.Parse(l, behind)
			classes := map[string]int{}
			for _, x := range append(slices.Clone(old.Nodes), now.Nodes...) {
				classes[x.Name] = r.Intn(4)
			}
			in := inside(len(behind), changed)
			for at, from := range plainOrigins(len(text), e) {
				if from < 0 {
					continue
				}
				a, b := plainNames(old, from), plainNames(now, at)
				same := colour(a, classes) == colour(b, classes) && len(a) == len(b) && told(a) == told(b)
				if !in[at] && !same {
					t.Fatalf("19.5: %s: %q, %+v: %v, at %d: %q, %q", l.Name, text, e, changed, at, a, b)
				}
				if !in[at] {
					kept++
				} else if !same {
					unlike++
				}
			}
		}
	}
	if kept < 1000 || unlike < 1000 {
		t.Errorf("only %d bytes have kept their colours, %d not", kept, unlike)
	}
}

// P11, P8: of results of Reparse it is the same, edit by edit.
func TestReparsed(t *testing.T) {
	r := rand.New(rand.NewSource(198))
	for _, s := range samples() {
		l := loaded(t, s.defn)
		text := s.texts[0]
		old := parse.Parse(l, text)
		for range 60 {
			e := fruitful(r, l, text, s.pieces)
			behind, now, _, code := incr.Reparse(l, text, old, e)
			if code != api.OK {
				t.Fatalf("%d", code)
			}
			_, want := check(t, l, text, e)
			if got := ranges.Changed(len(text), old, e, now); !slices.Equal(got, want) {
				t.Fatalf("P11: %s: %q, %+v: %v, want %v", l.Name, text, e, got, want)
			}
			text, old = behind, now
		}
	}
}

// 19.1 to 19.3: all short texts, behind all short edits.
func TestAllShort(t *testing.T) {
	for _, c := range []struct {
		defn, letters string
		most          int
	}{
		{sums, "1+(", 4},
		{sums, "1+()", 4},
		{`language l; token a /a/; token b /b/; rule s = a @ x _m "." | a @ y _m "," | e; rule _m = (b _m)?; rule e = "e"?;`, "ab.,", 4},
		{`language l; skip / /; token a /a(bb)*/; token _b /b/; rule _s = (a | p)*; rule p = _b a | _b _b @ b;`, "ab ", 5},
		{`language l; skip /\n */ do measure; token a /a/; token _i empty when deeper do indent; token _d empty when shallower do dedent; token _d empty when ended, indented do drop; rule s = (a | b)*; rule b = _i s _d;`, "a\n ", 5},
	} {
		l := loaded(t, c.defn)
		texts := []string{""}
		for i := 0; len(texts[i]) < c.most; i++ {
			for _, b := range c.letters {
				texts = append(texts, texts[i]+string(b))
			}
		}
		for _, text := range texts {
			checkChains(t, l, text, parse.Parse(l, text))
			for at := range len(text) + 1 {
				for gone := range min(2, len(text)-at) + 1 {
					for _, come := range append(strings.Split(c.letters, ""), "", c.letters) {
						check(t, l, text, api.Edit{At: at, Del: gone, Ins: come})
					}
				}
			}
		}
	}
}

// anyExpr: an expression as it comes; its conflicts are the loader's to find.
func anyExpr(r *rand.Rand, deep int) string {
	switch n := r.Intn(12); {
	case n < 5 || deep == 0:
		return pick(r, "a", "b", "_c", `"+"`, `"("`, "p", "_q", "a @ x", "b @ x", "_c @ y", `"+" @ x`, "p @ x", "_q @ z")
	case n < 8:
		return anyExpr(r, deep-1) + " " + anyExpr(r, deep-1)
	case n < 10:
		return "(" + anyExpr(r, deep-1) + " | " + anyExpr(r, deep-1) + ")"
	}
	return "(f: (" + anyExpr(r, deep-1) + "))" + pick(r, "*", "+", "?")
}

// anyLang: a language as it comes.
func anyLang(r *rand.Rand) api.Lang {
	for {
		text := "language l; " + pick(r, "", "skip / +/; ", "skip / +/; skip /%[^%]*%/; ") + "token a " + pick(r, "/a/", "/a+/", "/a(ba)*/", "/[ab]/") + "; token b " + pick(r, "/b/", "/b+/", "/ab?/") + "; token _c " + pick(r, "/c/", "/c+/", "empty when ended") + "; "
		text += "rule " + pick(r, "s", "_s") + " = " + pick(r, anyExpr(r, 3), "("+anyExpr(r, 3)+")*") + "; rule p = " + anyExpr(r, 2) + "; rule _q = " + anyExpr(r, 2) + ";"
		if l, fault := load.Load(text); fault == (api.Fault{}) {
			l.Name = text // so that a fault of a test tells it
			return l
		}
	}
}

// anyText: one in which the language's tokens follow one another as far as they can.
func anyText(r *rand.Rand, l api.Lang, pieces []string) string {
	text := ""
	for range r.Intn(12) {
		e := fruitful(r, l, text, pieces)
		text, _ = edit.Apply(text, api.Edit{At: len(text), Ins: e.Ins})
	}
	return text
}

// 19.1 to 19.3, P11: languages as they come.
func TestAnyLang(t *testing.T) {
	r := rand.New(rand.NewSource(199))
	seen := map[string]int{}
	pieces := []string{"a", "b", "c", "+", "(", " ", "ab", "%"}
	for range 400 {
		l := anyLang(r)
		script(t, r, l, anyText(r, l, pieces), pieces, 8, seen)
	}
	enough(t, 50, seen, "OK, then OK", "OK, then refused", "refused, then OK", "refused, then refused", "several ranges", "new", "another token alone", "other names alone", "as it was, in none", "as it was")
}
