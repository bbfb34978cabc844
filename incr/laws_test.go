package incr_test

import (
	"math"
	"math/rand"
	"strings"
	"testing"

	"trellis/api"
	"trellis/edit"
	"trellis/load"
	"trellis/parse"
)

// little: the scanning of the definition of doc/29-trellis.md, and nearly all of its rules.
const little = `language little; mode str; mode code open;
skip /[ \t]+/; skip /#[^\n]*/;
token NEWLINE /\n/ when queued;
token NEWLINE /\n([ \t]*(#[^\n]*)?\n)*[ \t]*/ when unqueued do measure;
token INDENT empty when deeper do indent;
token DEDENT empty when shallower do dedent;
token DEDENT empty when ended, indented do drop;
token HERE /<<[A-Z]+/ do enqueue 2;
token BODY body when queued do dequeue;
token QUOTE /"/ do enter str;
token CHARS /[^"$\n]+/ in str; token CHARS /$/ in str;
token OPEN /${/ in str do enter code;
token CLOSE /}/ in code do leave;
token END /"/ in str do leave;
token NUMBER /[0-9]+/; token NAME /[a-z_]+/;
rule file = _statement*;
rule _statement = simple | branch | loop;
rule simple = _small NEWLINE (text: BODY NEWLINE)*;
rule _small = assign | _expr | "pass";
rule assign = target: NAME "=" value: _expr;
rule branch = "if" test: _expr then: block ("else" other: block)?;
rule loop = "while" test: _expr block;
rule block = ":" NEWLINE INDENT _statement+ DEDENT;
rule _expr = sum | _atom;
rule sum = left: _expr op: ("+" | "-") right: _atom;
rule _atom = NAME | NUMBER | string | here | call | "(" _expr ")";
rule call = function: NAME "(" (_expr ("," _expr)*)? ")";
rule here = HERE;
rule string = QUOTE (CHARS | hole)* END;
rule hole = OPEN _expr CLOSE;`

// sample: a definition, texts of it, and what may come in their midst.
type sample struct {
	defn   string
	texts  []string
	pieces []string
}

// samples: languages with all that a scanner can look at: regexes that look ahead, delimiters, bodies, the end, the state alone.
func samples() []sample {
	return []sample{
		{sums, []string{"1+(2+3)", "((1))", " 12 + 3 ", "1+2+3+4"}, []string{"1", "+", "(", ")", " ", "?"}},
		{layout, []string{"a\nif b:\n  c\n  if d:\n\te\nf\n", "if a:\n if b:\n  c\nd\n"}, []string{" ", "\n", "  ", "a", "if a:\n", "\t", ":", "\n  ", "?"}},
		{heres, []string{"<<A b <<B\nx\nA\nB\nc\n", "a\n\n<<X\nX\n", "<<A\nA\n<<A\nA\n"}, []string{"<<A", "A", "\n", "A\n", "B\n", "x", " ", "?"}},
		{little, []string{
			"if a:\n  b = 1\nelse:\n  while c:\n    pass\nd(1, \"x${f(\"y\")}\")\n", "s = <<EOF + <<X\nq\nEOF\nX\nt\n", "x = \"$a${\"${b}\"}\"\nif x:\n\tpass\n", "if a:\n  if b:\n    c\n",
		}, []string{"\n", "\n  ", "\n    ", "\"", "${", "}", "<<E", "EOF", "E\n", "a", "1", "(", ")", "pass", ":", "if a:\n  ", "$", "\t", "#", "?"}},
		{`language l; skip / +/; token w /[a-z]+/; token e /x(yyz)*/; rule s = (w | e)*;`, []string{"ab cd", "xyyzyy ab x", "xyyz yyz"}, []string{"x", "y", "z", " ", "yyz", "?"}},
		{`language l; mode str; skip / +/; token open /'+/ do enter str 0; token close delim in str do leave; token part /[^']|'/ in str; rule s = (open part* close)*;`, []string{"''x'y'' 'a'", "'''a''b'''", "'a' ''b''"}, []string{"'", "''", "x", " ", "'''", strings.Repeat("'", 17)}},
		{`language l; flag in; token _a /a/ when noflag in do set in; token b /b/ when flag in do clear in; token _e empty when flag in; rule s = (_a _e* b)*;`, []string{"ab", "abab", "ababab"}, []string{"a", "b", "aa"}},
		{`language l; skip / /; token a /a/; token e empty; token _z empty when ended; rule s = (a e)* ("." _z)?;`, []string{"a a a", "aa .", " . "}, []string{"a", " ", ".", "b"}},
		{`language l; flag k; token a /a/ do set k; token e empty when flag k do clear k; rule s = (a e)*;`, []string{"aaa", "a"}, []string{"a", "b"}}, // e looks at nothing
		{`language l; mode m open; token o "<" do enter m; token c ">" do leave; token h /[A-Z]+/ do enqueue 0; token b body do dequeue; token _n /\n/; rule s = (o | c | h | b | _n)*;`,
			[]string{"<>A\nA\n", "A\nB\nx\nA\nB", strings.Repeat("<", 16) + "A\nA", strings.Repeat("A\n", 8)}, []string{"<", ">", "A\n", "B\n", "A", "\n", strings.Repeat("C\n", 9)}},
		{`language l; token _a /a/; token _e empty; rule s = (_a | _e)*;`, []string{"", "a", "aa"}, []string{"a", "b", "aa"}}, // ended by ErrLoop
	}
}

// changed: an edit of a text that may happen.
func changed(r *rand.Rand, text string, pieces []string) api.Edit {
	at := pick(r, r.Intn(len(text)+1), r.Intn(len(text)+1), r.Intn(len(text)+1), 0, len(text), -3, len(text)+3)
	e := api.Edit{At: at, Del: pick(r, 0, 0, 0, 1, 1, 2, r.Intn(len(text)+1), -1), Ins: pick(r, append(pieces, "", "")...)}
	switch r.Intn(25) {
	case 0:
		return api.Edit{At: r.Intn(len(text) + 1)}
	case 1:
		return api.Edit{At: math.MinInt, Del: r.Intn(3), Ins: e.Ins}
	case 2:
		return api.Edit{At: e.At, Del: math.MaxInt, Ins: e.Ins}
	case 3:
		return api.Edit{At: math.MaxInt, Del: math.MaxInt, Ins: e.Ins}
	case 4: // what is deleted comes again
		c := edit.Clamp(len(text), e)
		return api.Edit{At: c.At, Del: c.Del, Ins: text[c.At : c.At+c.Del]}
	}
	return e
}

// fruitful: of a few edits one behind which there are the most leaves; at times the first one. (Else most texts are refused near their beginning, and little can be kept.)
func fruitful(r *rand.Rand, l api.Lang, text string, pieces []string) api.Edit {
	var best api.Edit
	most := -1
	for range pick(r, 1, 3, 5) {
		e := changed(r, text, pieces)
		behind, _ := edit.Apply(text, e)
		if n := len(parse.Parse(l, behind).Leaves); n > most {
			best, most = e, n
		}
	}
	return best
}

// huge: an edit that is refused of every text.
func huge(r *rand.Rand) api.Edit {
	return api.Edit{At: r.Intn(9), Del: r.Intn(2), Ins: strings.Repeat("1", 1<<20+2)}
}

// count: what a step of a script has come to.
func count(seen map[string]int, old, now api.Result, stats api.Stats) {
	word := func(r api.Result) string {
		if r.Code == api.OK {
			return "OK"
		}
		return "refused"
	}
	seen[word(old)+", then "+word(now)]++
	switch now.Code {
	case api.OK, api.ErrSyntax:
	case api.ErrLoop:
		seen["ErrLoop"]++
	default:
		seen["an action"]++
	}
	if stats.Kept > 2 && stats.Scanned > 1 {
		seen["some kept, some scanned"]++
	}
}

// script: edits, each of what the one ahead of it left, and back; at times one that is refused.
func script(t *testing.T, r *rand.Rand, l api.Lang, text string, pieces []string, steps int, seen map[string]int) {
	t.Helper()
	first, old := text, parse.Parse(l, text)
	var done []api.Edit
	for range steps {
		e := fruitful(r, l, text, pieces)
		if r.Intn(200) == 0 {
			e = huge(r)
		}
		if len(text) > 80 && r.Intn(2) == 0 {
			e = api.Edit{At: r.Intn(40), Del: 40}
		}
		behind, now, stats := checkBack(t, l, text, old, e)
		count(seen, old, now, stats)
		if len(e.Ins) > 1<<20 {
			seen["too long"]++
		} else {
			done = append(done, e)
		}
		text, old = behind, now
	}
	if want, code, _ := edit.All(first, done); code != api.OK || text != want {
		t.Fatalf("18.4: %s: %q, %+v: %q, want %q", l.Name, first, done, text, want)
	}
}

// 18.4, P8, P9, P12: scripts of edits.
func TestScripts(t *testing.T) {
	r := rand.New(rand.NewSource(184))
	seen := map[string]int{}
	for _, s := range samples() {
		l := loaded(t, s.defn)
		for range 8 {
			for _, text := range s.texts {
				script(t, r, l, text, s.pieces, 12, seen)
			}
		}
	}
	enough(t, 50, seen, "OK, then OK", "OK, then refused", "refused, then OK", "refused, then refused", "ErrLoop", "an action", "some kept, some scanned")
	enough(t, 5, seen, "too long")
}

// 18.6: one edit for two.
func TestCover(t *testing.T) {
	r := rand.New(rand.NewSource(186))
	for _, s := range samples() {
		l := loaded(t, s.defn)
		for range 40 {
			text := pick(r, s.texts...)
			old := parse.Parse(l, text)
			for range 3 {
				a := changed(r, text, s.pieces)
				middle, _ := edit.Apply(text, a)
				text, old = checkCover(t, l, text, old, a, changed(r, middle, s.pieces))
			}
		}
		checkCover(t, l, s.texts[0], parse.Parse(l, s.texts[0]), huge(r), api.Edit{})
	}
}

// 18.5: an edit that is clamped to nothing leaves all as it was, whatever the place; and what is typed letter by letter, and taken back so, too.
func TestNothingDone(t *testing.T) {
	for _, s := range samples() {
		l := loaded(t, s.defn)
		for _, text := range s.texts {
			old := parse.Parse(l, text)
			for _, e := range []api.Edit{{At: math.MinInt, Del: math.MinInt}, {At: math.MaxInt, Del: math.MaxInt}, {At: len(text), Del: 9}, {Del: -1}} {
				if same, r, _ := check(t, l, text, old, e); same != text || r.Code != old.Code {
					t.Fatalf("18.5: %s: %q, %+v: %q", l.Name, text, e, same)
				}
			}
			for at := range len(text) + 1 {
				check(t, l, text, old, api.Edit{At: at})
			}
			typed, now := "", parse.Parse(l, "")
			for i := range len(text) {
				typed, now, _ = checkBack(t, l, typed, now, api.Edit{At: i, Ins: text[i : i+1]})
			}
			if typed != text || !same(now, old) {
				t.Fatalf("18.4: %s: %q letter by letter: %q, %+v, want %+v", l.Name, text, typed, now, old)
			}
			for len(typed) > 0 {
				typed, now, _ = check(t, l, typed, now, api.Edit{Del: 1})
			}
		}
	}
}

// P8, P9: all short texts of languages in which tokens look far ahead of themselves, behind all short edits.
func TestAllShort(t *testing.T) {
	for _, c := range []struct {
		defn, letters string
		most          int
	}{
		{`language l; skip / /; token a /a(bb)*/; token b /b/; token z empty when ended; rule s = (a | b)* z?;`, "ab ", 4},
		{`language l; token h /[a-z]/ do enqueue 0; token b body do dequeue; token n /\n/; rule s = (h | n n? b)*;`, "a\n", 6},
		{`language l; skip /\n */ do measure; token a /a/; token i empty when deeper do indent; token d empty when shallower do dedent; token d empty when ended, indented do drop; rule s = (a | i | d)*;`, "a\n ", 5},
		{`language l; mode m; token o /'+/ do enter m 0; token c delim in m do leave; token x /x|'/ in m; rule s = (o x* c)*;`, "'x", 6},
	} {
		l := loaded(t, c.defn)
		texts := []string{""}
		for i := 0; len(texts[i]) < c.most; i++ {
			for _, b := range c.letters {
				texts = append(texts, texts[i]+string(b))
			}
		}
		for _, text := range texts {
			old := parse.Parse(l, text)
			for at := range len(text) + 1 {
				for gone := range min(2, len(text)-at) + 1 {
					for _, come := range append(strings.Split(c.letters, ""), "", c.letters) {
						check(t, l, text, old, api.Edit{At: at, Del: gone, Ins: come})
					}
				}
			}
		}
	}
}

// anyPattern: what a scanning rule of a language as it comes matches; skipped: something, always.
func anyPattern(r *rand.Rand, skipped bool) string {
	some := pick(r, "/a/", "/b/", "/a+/", "/a(ba)*/", "/ab?a?/", "/[ab]+/", "/[^a]/", "/ +/", "/\\n */", "/\\n/", "/b( b)*/", "/(ab|b)+ ?/", `"a"`, `"ab"`, `" a"`, `"\n"`)
	if skipped {
		return some
	}
	return pick(r, some, some, some, some, "empty", "delim", "body")
}

// anyClauses: modes, tests and actions as they come.
func anyClauses(r *rand.Rand) string {
	out := pick(r, "", "", "", "", " in m", " in n", " in m, n")
	if r.Intn(3) == 0 {
		out += " when " + pick(r, "deeper", "shallower", "queued", "unqueued", "flag f", "noflag f", "ended", "indented", "ended, indented", "deeper, noflag f", "unqueued, flag f")
	}
	if r.Intn(2) == 0 {
		out += " do " + pick(r, "measure", "measure", "indent", "dedent", "drop", "enqueue 0", "enqueue 1", "dequeue", "enter m", "enter n 0", "enter n 1", "leave", "set f", "clear f", "measure, indent", "set f, enqueue 0")
	}
	return out
}

// anyLang: a language as it comes; its tokens follow one another in simple ways, its scanner does what it likes.
func anyLang(r *rand.Rand) api.Lang {
	for {
		text := "language l; mode m" + pick(r, "", " open") + "; mode n open; flag f; "
		for range r.Intn(3) {
			text += "skip " + anyPattern(r, true) + anyClauses(r) + "; "
		}
		for i := range 3 + r.Intn(4) {
			text += "token " + []string{"t", "u", "_v"}[i%3] + " " + anyPattern(r, false) + anyClauses(r) + "; "
		}
		text += "rule s = " + pick(r, "(t | u | _v)*", "(t u? | _v)*", "t* (u _v*)*", "(t | g: e)* _v?; rule e = u s _v", "(t (u | _v))* u?", `("a" | t u | _v)*`) + ";"
		if l, fault := load.Load(text); fault == (api.Fault{}) {
			l.Name = text // so that a fault of a test tells it
			return l
		}
	}
}

// P8, P9, P12, 18.6: languages as they come.
func TestAnyLang(t *testing.T) {
	r := rand.New(rand.NewSource(188))
	seen := map[string]int{}
	pieces := []string{"a", "b", " ", "\n", "ab", "\n ", "a\n", "a\na", "\n  "}
	for range 900 {
		l := anyLang(r)
		text := ""
		for range r.Intn(12) {
			text, _ = edit.Apply(text, fruitful(r, l, text, pieces))
		}
		script(t, r, l, text, pieces, 10, seen)
		a := changed(r, text, pieces)
		middle, _ := edit.Apply(text, a)
		checkCover(t, l, text, parse.Parse(l, text), a, changed(r, middle, pieces))
	}
	enough(t, 50, seen, "OK, then OK", "OK, then refused", "refused, then OK", "refused, then refused", "ErrLoop", "an action", "some kept, some scanned")
}
