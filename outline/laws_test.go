package outline_test

import (
	"math/rand"
	"slices"
	"strings"
	"testing"

	"trellis/api"
	"trellis/incr"
	"trellis/outline"
	"trellis/parse"
	"trellis/tree"
)

// little: the definition of doc/29-trellis.md, without what it says of colours.
const little = `language little; mode str; mode code open;
skip /[ \t]+/; skip /#[^\n]*/;
token NEWLINE /\n/ when queued;
token NEWLINE /\n([ \t]*(#[^\n]*)?\n)*[ \t]*/ when unqueued do measure;
token INDENT empty when deeper do indent;
token DEDENT empty when shallower do dedent;
token DEDENT empty when ended, indented do drop;
token HERE /<<[A-Z]+/ do enqueue 2;
token BODY body when queued do dequeue;
token QUOTE /"/ do enter str;
token CHARS /[^"$\n]+/ in str; token CHARS /$/ in str;
token OPEN /${/ in str do enter code;
token CLOSE /}/ in code do leave;
token END /"/ in str do leave;
token NUMBER /[0-9]+/; token NAME /[a-z_]+/;
rule file = _statement*;
rule _statement = simple | branch | loop | function;
rule simple = _small NEWLINE (text: BODY NEWLINE)*;
rule _small = assign | _expr | "pass" | answer;
rule assign = target: NAME "=" value: _expr;
rule answer = "return" _expr?;
rule branch = "if" test: _expr then: block ("else" other: block)?;
rule loop = "while" test: _expr block;
rule function = "def" name: NAME "(" (NAME ("," NAME)*)? ")" block;
rule block = ":" NEWLINE INDENT _statement+ DEDENT;
rule _expr = sum | _term;
rule sum = left: _expr op: ("+" | "-") right: _term;
rule _term = product | _atom;
rule product = left: _term op: "*" right: _atom;
rule _atom = NAME | NUMBER | string | here | call | "(" _expr ")";
rule call = function: NAME "(" (_expr ("," _expr)*)? ")";
rule here = HERE;
rule string = QUOTE (CHARS | hole)* END;
rule hole = OPEN _expr CLOSE; `

// 22.1, 22.2: texts of a language whose layout matters.
func TestLittle(t *testing.T) {
	for _, c := range []struct{ lines, text, folds, symbols string }{
		{"fold block; mark function name; mark assign target;", "", "", ""},
		{"fold block; mark function name; mark assign target;", "a = 1\nb\n", "", `0 assign "a" 0-5`},
		{"fold block; mark function name; mark assign target;", "def f(a):\n  x = 1\n  y\nz = 2\n", "0-2", `0 function "f" 0-22, 1 assign "x" 12-17, 0 assign "z" 22-27`},
		{"fold block; mark function name; mark assign target;", "if a:\n b\n\n# c\nelse:\n b\n", "0-3, 4-5", ""}, // the rows behind the first block are its last token's
		{"fold block; mark function name; mark assign target;", "def f():\n def g():\n  a = 1\n", "0-2, 1-2", `0 function "f" 0-27, 1 function "g" 10-27, 2 assign "a" 21-26`},
		{"fold block; mark function name; mark assign target;", "def f():\n def g():\n  a\n b = 1\nc = 2\n", "0-3, 1-3", `0 function "f" 0-30, 1 function "g" 10-24, 1 assign "b" 24-29, 0 assign "c" 30-35`}, // g's block ends behind the blank of b's row
		{"fold BODY; mark simple text;", "a + <<X + <<Y\nq\nX\nY\n", "1-2", `0 simple "q\nX" 0-20`},
		{"fold BODY; fold simple; mark simple text; mark here text;", "<<X + 1\nq\n\nX\n", "0-3, 1-3", `0 simple "q\n\nX" 0-13`},
		{"fold function; fold block; fold file;", "def f():\n a\n", "0-1", ""},
		{"mark branch then; mark sum op;", "if a + b - c:\n pass\n", "", `0 branch ":\n pass\n" 0-20, 1 sum "-" 3-12, 2 sum "+" 3-8`},
		{"fold block; mark function name;", "def f():\n if a:\n  b\n c ?", "1-3", ""}, // refused: the function has not been made, nor its block
	} {
		l := loaded(t, little+c.lines)
		folds, symbols := check(t, l, parse.Parse(l, c.text).Nodes, c.text)
		if got := toldFolds(folds); got != c.folds {
			t.Errorf("22.1: %s: %q: %s, want %s", c.lines, c.text, got, c.folds)
		}
		if got := toldSymbols(symbols); got != c.symbols {
			t.Errorf("22.2: %s: %q: %s, want %s", c.lines, c.text, got, c.symbols)
		}
	}
}

// sample: a definition, texts of it, and what may come in their midst.
type sample struct {
	defn   string
	texts  []string
	pieces []string
}

// samples: languages whose trees have all that a tree can have: hidden parts, other names, nodes without a byte, no root and several.
func samples() []sample {
	return []sample{
		{little + "fold block; fold BODY; mark function name; mark assign target;", []string{
			"if a:\n  b = 1\nelse:\n  while c:\n    pass\nd(1, \"x${f(\"y\")}\")\n", "s = <<EOF + <<X\nq\nEOF\nX\nt\n", "def g():\n\tx = \"$a${\"${b}\"}\"\n\tif x:\n\t\tpass\n", "def f(a, b):\n  if a:\n    return b * 2\n  def h():\n   c = 1\n",
		}, []string{"\n", "\n  ", "\n    ", "\"", "${", "}", "<<E", "EOF", "E\n", "a", "1", "(", ")", "pass", ":", "if a:\n  ", "def f():\n  ", "a = 1", "\t", "#", "?"}},
		{`language l; skip /[ \n]/; token a /a/; rule _s = (e a)* "."?; rule e = f: "-"?; fold e; mark e f;`, []string{"a", "-a\n-aa", " - a -a."}, []string{"a", "-", ".", "\n", "?"}}, // several roots, or none; some without a byte
		{`language l; skip /[ \n]/; token _a /a/; token b /b/; rule _s = (_a | p)*; rule p = "(" in: _t @ in ")"; rule _t = (_a | f: b | p)*; fold p; fold in; mark in f; mark p in;`, []string{"aa", "(a\nb)a()", "a(b(a\nb)\n(\n))"}, []string{"a", "b", "(", ")", "()", "\n", "?"}},
		{`language l; token x /x/; token n /\n/; rule s = (f: x @ a | n | p @ a)*; rule p = "<" g: s ">"; fold a; fold s; mark a g; mark s f; mark p g;`, []string{"x\n<x>\n", "<<\nx>\n>", "x"}, []string{"x", "\n", "<", ">", "\n\n"}},
		{`language l; token a /a+\n?/; token b /b/; rule s = n: a (b s)?; fold s; mark s n;`, []string{"a\nbaaba\n", "a", "ababa\nbaba"}, []string{"a", "b", "ab", "\n"}},
	}
}

// namesOf: what the nodes of a list are called, and what fields they have; and something else.
func namesOf(nodes []api.Node) (names, fields []string) {
	names, fields = []string{"nobody"}, []string{"none"}
	for _, n := range nodes {
		names = append(names, n.Name)
		if n.Field != "" {
			fields = append(fields, n.Field)
		}
	}
	return names, fields
}

// 22.1 to 22.5, P8: behind edits, with the definition's lines and with others.
func TestEdited(t *testing.T) {
	r := rand.New(rand.NewSource(222))
	seen := map[string]int{}
	for _, s := range samples() {
		l := loaded(t, s.defn)
		for _, text := range slices.Repeat(s.texts, 12) {
			old := parse.Parse(l, text)
			for range 25 {
				e := api.Edit{At: r.Intn(len(text) + 1), Del: pick(r, 0, 0, 1, 2), Ins: pick(r, append(s.pieces, "")...)}
				if len(text) > 80 {
					e.Del = 40
				}
				behind, now, _, code := incr.Reparse(l, text, old, e)
				if code != api.OK {
					t.Fatalf("%d", code)
				}
				fresh := parse.Parse(l, behind)
				for _, l := range []api.Lang{l, anyLangOf(r, fresh.Nodes)} {
					folds, symbols := check(t, l, fresh.Nodes, behind)
					if !slices.Equal(folds, outline.Folds(l, now.Nodes, behind)) || !slices.Equal(symbols, outline.Symbols(l, now.Nodes, behind)) {
						t.Fatalf("P8: %s: %q: another outline than from scratch", l.Name, behind)
					}
					checkInOneAnother(t, symbols)
					checkMoved(t, r, l, fresh.Nodes, behind)
					count(seen, fresh.Code, len(folds), len(symbols))
				}
				text, old = behind, now
				if fresh.Code != api.OK && r.Intn(3) > 0 { // else most texts would be refused near their beginning
					text = pick(r, s.texts...)
					old = parse.Parse(l, text)
				}
			}
		}
	}
	enough(t, 300, seen, "OK", "refused", "OK with folds", "refused with folds", "OK with symbols", "refused with symbols")
}

// anyLangOf: folds and marks as they come, for these nodes.
func anyLangOf(r *rand.Rand, nodes []api.Node) api.Lang {
	names, fields := namesOf(nodes)
	return anyLang(r, names, fields)
}

// count: what kinds of parses have come up.
func count(seen map[string]int, code api.Errno, folds, symbols int) {
	kind := "OK"
	if code != api.OK {
		kind = "refused"
	}
	seen[kind]++
	if folds > 0 {
		seen[kind+" with folds"]++
	}
	if symbols > 1 {
		seen[kind+" with symbols"]++
	}
}

// checkInOneAnother: 22.3 of a parse's symbols, whose nodes' bytes lie within those of the nodes above them.
func checkInOneAnother(t *testing.T, l []api.Symbol) {
	t.Helper()
	for i, s := range l {
		for j := i - 1; s.Depth > 0; j-- {
			if l[j].Depth == s.Depth-1 {
				if l[j].From > s.From || l[j].To < s.To {
					t.Fatalf("22.3: %v: %v is not in %v", l, s, l[j])
				}
				break
			}
		}
	}
}

// 22.3: symbols stand in one another as their nodes do.
func TestNested(t *testing.T) {
	r := rand.New(rand.NewSource(223))
	deepest := 0
	for range 20000 {
		n := 1 + r.Intn(40)
		nodes := anyForest(r, n, names(), fields(), n)
		for i := range nodes { // so that a symbol's From tells its node
			nodes[i].From, nodes[i].To = i, i+r.Intn(n-i+1)
		}
		l := anyLang(r, names(), fields())
		got := outline.Symbols(l, nodes, strings.Repeat("x", n))
		isSymbol := map[int]bool{}
		for _, s := range got {
			isSymbol[s.From] = true
		}
		for i, s := range got {
			var above []int // the symbols that it is in, from the innermost on
			for p := tree.Parent(nodes, s.From); p >= 0; p = tree.Parent(nodes, p) {
				if isSymbol[p] {
					above = append(above, p)
				}
			}
			if s.Depth != len(above) || i == 0 && s.Depth != 0 || i > 0 && (s.Depth > got[i-1].Depth+1 || s.From <= got[i-1].From) {
				t.Fatalf("22.3: %+v, %+v: %v: %v is in %v", l.Marks, nodes, got, s, above)
			}
			if s.Depth == 0 {
				continue
			}
			nearest := i - 1
			for got[nearest].Depth != s.Depth-1 {
				nearest--
			}
			if got[nearest].From != above[0] {
				t.Fatalf("22.3: %+v, %+v: %v: %v is in %v", l.Marks, nodes, got, s, above)
			}
			deepest = max(deepest, s.Depth)
		}
	}
	if deepest < 4 {
		t.Errorf("no symbol deeper than %d", deepest)
	}
}

// checkMoved: 22.5 of one list of nodes.
func checkMoved(t *testing.T, r *rand.Rand, l api.Lang, nodes []api.Node, text string) {
	t.Helper()
	rows := pick(r, "\n", "\n\n\n", "x\n", "\xff \n\n\t\n", strings.Repeat("\n", 70000))
	if len(rows) > 9 && r.Intn(200) > 0 {
		rows = "\n\n"
	}
	moved := slices.Clone(nodes)
	for i := range moved {
		moved[i].From += len(rows)
		moved[i].To += len(rows)
	}
	folds := outline.Folds(l, nodes, text)
	for i := range folds {
		folds[i].First += strings.Count(rows, "\n")
		folds[i].Last += strings.Count(rows, "\n")
	}
	if got := outline.Folds(l, moved, rows+text); !slices.Equal(got, folds) {
		t.Fatalf("22.5: %v, %+v, %q behind %d bytes: %v, want %v", l.Folds, nodes, text, len(rows), got, folds)
	}
	symbols := outline.Symbols(l, nodes, text)
	for i := range symbols {
		symbols[i].From += len(rows)
		symbols[i].To += len(rows)
	}
	if got := outline.Symbols(l, moved, rows+text); !slices.Equal(got, symbols) {
		t.Fatalf("22.5: %v, %+v, %q behind %d bytes: %v, want %v", l.Marks, nodes, text, len(rows), got, symbols)
	}
}

// 22.5: rows ahead of a text.
func TestMoved(t *testing.T) {
	r := rand.New(rand.NewSource(225))
	for range 20000 {
		text := anyText(r, r.Intn(40))
		nodes := anyForest(r, 1+r.Intn(20), names(), fields(), len(text))
		checkMoved(t, r, anyLang(r, names(), fields()), nodes, text)
	}
}
