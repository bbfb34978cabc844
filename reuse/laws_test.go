package reuse_test

import (
	"math/rand"
	"slices"
	"strings"
	"testing"

	"trellis/api"
	"trellis/edit"
	"trellis/load"
	"trellis/parse"
	"trellis/reuse"
	"trellis/scan"
	"trellis/state"
)

// little: the scanning of the definition of doc/29-trellis.md, and nearly all of its rules.
const little = `language little; mode str; mode code open;
skip /[ \t]+/; skip /#[^\n]*/;
token NEWLINE /\n/ when queued;
token NEWLINE /\n([ \t]*(#[^\n]*)?\n)*[ \t]*/ when unqueued do measure;
token INDENT empty when deeper do indent;
token DEDENT empty when shallower do dedent;
token DEDENT empty when ended, indented do drop;
token HERE /<<[A-Z]+/ do enqueue 2;
token BODY body when queued do dequeue;
token QUOTE /"/ do enter str;
token CHARS /[^"$\n]+/ in str; token CHARS /$/ in str;
token OPEN /${/ in str do enter code;
token CLOSE /}/ in code do leave;
token END /"/ in str do leave;
token NUMBER /[0-9]+/; token NAME /[a-z_]+/;
rule file = _statement*;
rule _statement = simple | branch | loop;
rule simple = _small NEWLINE (text: BODY NEWLINE)*;
rule _small = assign | _expr | "pass";
rule assign = target: NAME "=" value: _expr;
rule branch = "if" test: _expr then: block ("else" other: block)?;
rule loop = "while" test: _expr block;
rule block = ":" NEWLINE INDENT _statement+ DEDENT;
rule _expr = sum | _atom;
rule sum = left: _expr op: ("+" | "-") right: _atom;
rule _atom = NAME | NUMBER | string | here | call | "(" _expr ")";
rule call = function: NAME "(" (_expr ("," _expr)*)? ")";
rule here = HERE;
rule string = QUOTE (CHARS | hole)* END;
rule hole = OPEN _expr CLOSE;`

// sample: a definition, texts of it, and what may come in their midst.
type sample struct {
	defn   string
	texts  []string
	pieces []string
}

// samples: languages with all that a scanner can look at: regexes that look ahead, delimiters, bodies, the end, the state alone.
func samples() []sample {
	return []sample{
		{`language l; skip / +/; token n /[0-9]+/; rule s = t ("+" t)*; rule t = n | "(" s ")";`, []string{"1+(2+3)", "((1))", " 12 + 3 ", "1+2+3+4"}, []string{"1", "+", "(", ")", " ", "?"}},
		{`language l; skip / +/; token w /[a-z]+/; token e /x(yyz)*/; rule s = (w | e)*;`, []string{"ab cd", "xyyzyy ab x", "xyyz yyz"}, []string{"x", "y", "z", " ", "yyz", "?"}},
		{`language l; skip /\n */ do measure; token name /[a-z]/; token _in empty when deeper do indent; token _out empty when shallower do dedent; token _out empty when ended, indented do drop; rule s = item+; rule item = name (";" | _in s _out);`,
			[]string{"a\n  b;\nc;", "a\n b\n  c\n   d;\n  e;\nf;", "a\n  b;", "a\n  b\n    c;\n"}, []string{"a", ";", "\n", "\n ", "\n  ", "\n   ", "?"}},
		{`language l; mode str; skip / +/; token open /'+/ do enter str 0; token close delim in str do leave; token part /[^']|'/ in str; rule s = (open part* close)*;`, []string{"''x'y'' 'a'", "'''a''b'''", "'a' ''b''"}, []string{"'", "''", "x", " ", "'''"}},
		{little, []string{
			"if a:\n  b = 1\nelse:\n  while c:\n    pass\nd(1, \"x${f(\"y\")}\")\n", "s = <<EOF + <<X\nq\nEOF\nX\nt\n", "x = \"$a${\"${b}\"}\"\nif x:\n\tpass\n", "if a:\n  if b:\n    c\n",
		}, []string{"\n", "\n  ", "\n    ", "\"", "${", "}", "<<E", "EOF", "E\n", "a", "1", "(", ")", "pass", ":", "if a:\n  ", "$", "\t", "?"}},
		{`language l; flag in; token _a /a/ when noflag in do set in; token b /b/ when flag in do clear in; token _e empty when flag in; rule s = (_a _e* b)*;`, []string{"ab", "abab", "ababab"}, []string{"a", "b", "aa"}},
		{`language l; skip / /; token a /a/; token e empty; token _z empty when ended; rule s = (a e)* ("." _z)?;`, []string{"a a a", "aa .", " . "}, []string{"a", " ", ".", "b"}},
		{`language l; flag k; token a /a/ do set k; token e empty when flag k do clear k; rule s = (a e)*;`, []string{"aaa", "a"}, []string{"a", "b"}}, // e looks at nothing
		{`language l; mode m open; token o "<" do enter m; token c ">" do leave; token h /[A-Z]+/ do enqueue 0; token b body do dequeue; token _n /\n/; rule s = (o | c | h | b | _n)*;`,
			[]string{"<>A\nA\n", "A\nB\nx\nA\nB", strings.Repeat("<", 16) + "A\nA", strings.Repeat("A\n", 8)}, []string{"<", ">", "A\n", "B\n", "A", "\n"}},
		{`language l; token _a /a/; token _e empty; rule s = (_a | _e)*;`, []string{"", "a", "aa"}, []string{"a", "b", "aa"}}, // ended by ErrLoop
	}
}

func loaded(t *testing.T, text string) api.Lang {
	t.Helper()
	l, fault := load.Load(text)
	if fault != (api.Fault{}) {
		t.Fatalf("%s is no language: %+v", text, fault)
	}
	return l
}

// changed: an edit of a text that may happen.
func changed(r *rand.Rand, text string, pieces []string) api.Edit {
	at := r.Intn(len(text) + 1)
	switch r.Intn(8) {
	case 0:
		at = len(text)
	case 1:
		at = 0
	}
	return api.Edit{At: at, Del: pick(r, 0, 0, 0, 1, 1, 2, r.Intn(len(text)+1)), Ins: pick(r, append(pieces, "", "")...)}
}

// stepOf: what the step from a place on, in the state of these bytes, under a valid set, is as a leaf; false: it is refused, or there is no such state.
func stepOf(l api.Lang, text string, at int, before string, valid api.Terms) (api.Leaf, bool) {
	s, code := state.Decode(before)
	x := scan.Next(l.Rules, s, text, at, valid)
	if code != api.OK || x.Code != api.OK {
		return api.Leaf{}, false
	}
	after, _ := state.Encode(x.After)
	return api.Leaf{Term: x.Term, Pad: x.From - at, Len: x.To - x.From, Look: x.Look - at, Valid: valid, After: after}, true
}

// checkTrue: all that is found of a parse behind an edit is what the steps on the text behind come to; counted by kinds.
func checkTrue(t *testing.T, l api.Lang, text string, e api.Edit, seen map[string]int) {
	t.Helper()
	r := parse.Parse(l, text)
	behind, code := edit.Apply(text, e)
	if code != api.OK {
		t.Fatalf("%q, %+v: %d", text, e, code)
	}
	o := check(t, len(text), r, e)
	_, befores, valids := questions(len(text), r, e)
	for at := range len(behind) + 1 {
		for _, before := range befores {
			for _, valid := range valids {
				f, ok := o.Find(at, before, valid)
				if !ok {
					continue
				}
				if want, ok := stepOf(l, behind, at, before, valid); !ok || f != want {
					t.Fatalf("17.4: %s: %q, %+v, %q: Find(%d, %q, %x) = %+v, want %+v, %v", l.Name, text, e, behind, at, before, valid, f, want, ok)
				}
				switch {
				case f.Term == 0:
					seen["the end"]++
				case f.Look == 0:
					seen["looked at nothing"]++
				case f.Look > f.Pad+f.Len:
					seen["looked ahead"]++
				default:
					seen["others"]++
				}
			}
		}
	}
	got, stats := parse.With(l, behind, o)
	want := parse.Parse(l, behind)
	if got.Code != want.Code || got.At != want.At || got.Want != want.Want || got.Roots != want.Roots || !slices.Equal(got.Leaves, want.Leaves) || !slices.Equal(got.Nodes, want.Nodes) {
		t.Fatalf("P8: %s: %q, %+v: %+v, want %+v", l.Name, text, e, got, want)
	}
	seen["kept"] += stats.Kept
}

// 17.4: parses of texts, refused ones too, behind edits.
func TestTrue(t *testing.T) {
	r := rand.New(rand.NewSource(175))
	seen := map[string]int{}
	for _, s := range samples() {
		l := loaded(t, s.defn)
		for range 150 {
			text := pick(r, s.texts...)
			for range r.Intn(3) {
				text, _ = edit.Apply(text, changed(r, text, s.pieces))
			}
			checkTrue(t, l, text, changed(r, text, s.pieces), seen)
		}
	}
	enough(t, 500, seen, "the end", "looked at nothing", "looked ahead", "others", "kept")
}

// 17.4: all short texts of a language in which a token looks far ahead of itself, behind all edits of one byte.
func TestAllShort(t *testing.T) {
	l := loaded(t, `language l; skip / /; token a /a(bb)*/; token b /b/; token z empty when ended; rule s = (a | b)* z?;`)
	texts := []string{""}
	for i := 0; len(texts[i]) < 4; i++ {
		for _, b := range []string{"a", "b", " "} {
			texts = append(texts, texts[i]+b)
		}
	}
	seen := map[string]int{}
	for _, text := range texts {
		for at := range len(text) + 1 {
			for _, e := range []api.Edit{{At: at}, {At: at, Del: 1}, {At: at, Ins: "b"}, {At: at, Del: 1, Ins: "a"}, {At: at, Ins: " "}} {
				checkTrue(t, l, text, e, seen)
			}
		}
	}
	enough(t, 200, seen, "the end", "looked ahead", "others")
}

// 17.4: the leaves of a parse of the most tokens that there may be, behind an edit in their midst.
func TestManyLeaves(t *testing.T) {
	l := loaded(t, `language l; token a /a/; rule s = a*;`)
	for n, code := range map[int]api.Errno{api.MaxLeaves: api.OK, api.MaxLeaves + 1: api.ErrLeaves} {
		text := strings.Repeat("a", n)
		r := parse.Parse(l, text)
		e := api.Edit{At: 1000, Del: 1, Ins: "a"}
		o := reuse.New(n, r, e)
		if r.Code != code || o.Standing() != len(r.Leaves)-1 {
			t.Errorf("17.2: %d of %d stand, %d", o.Standing(), len(r.Leaves), r.Code)
		}
		if _, stats := parse.With(l, text, o); stats != (api.Stats{Scanned: 1 + n - api.MaxLeaves, Kept: len(r.Leaves) - 1}) {
			t.Errorf("17.3: %+v of %d leaves", stats, len(r.Leaves))
		}
	}
}
