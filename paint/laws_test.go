package paint_test

import (
	"math/rand"
	"slices"
	"strings"
	"testing"

	"trellis/api"
	"trellis/incr"
	"trellis/paint"
	"trellis/parse"
)

// little: the definition of doc/29-trellis.md, without what it says of folds and symbols.
const little = `language little; mode str; mode code open;
skip /[ \t]+/; skip /#[^\n]*/;
token NEWLINE /\n/ when queued;
token NEWLINE /\n([ \t]*(#[^\n]*)?\n)*[ \t]*/ when unqueued do measure;
token INDENT empty when deeper do indent;
token DEDENT empty when shallower do dedent;
token DEDENT empty when ended, indented do drop;
token HERE /<<[A-Z]+/ do enqueue 2;
token BODY body when queued do dequeue;
token QUOTE /"/ do enter str;
token CHARS /[^"$\n]+/ in str; token CHARS /$/ in str;
token OPEN /${/ in str do enter code;
token CLOSE /}/ in code do leave;
token END /"/ in str do leave;
token NUMBER /[0-9]+/; token NAME /[a-z_]+/;
rule file = _statement*;
rule _statement = simple | branch | loop | function;
rule simple = _small NEWLINE (text: BODY NEWLINE)*;
rule _small = assign | _expr | "pass" | answer;
rule assign = target: NAME "=" value: _expr;
rule answer = "return" _expr?;
rule branch = "if" test: _expr then: block ("else" other: block)?;
rule loop = "while" test: _expr block;
rule function = "def" name: NAME "(" (NAME ("," NAME)*)? ")" block;
rule block = ":" NEWLINE INDENT _statement+ DEDENT;
rule _expr = sum | _term;
rule sum = left: _expr op: ("+" | "-") right: _term;
rule _term = product | _atom;
rule product = left: _term op: "*" right: _atom;
rule _atom = NAME | NUMBER | string | here | call | "(" _expr ")";
rule call = function: NAME "(" (_expr ("," _expr)*)? ")";
rule here = HERE;
rule string = QUOTE (CHARS | hole)* END;
rule hole = OPEN _expr CLOSE;
paint NAME "name"; paint NUMBER "number"; paint string "string"; paint hole "hole"; paint BODY "string"; paint "if" "keyword"; paint "def" "keyword";`

// P13: what the paint lines of a definition say of texts.
func TestLittle(t *testing.T) {
	l := loaded(t, little)
	for _, c := range []struct{ text, want string }{
		{"", ""},
		{"pass\n", ""},
		{"a = b + 2\n", "0-1 name, 4-5 name, 8-9 number"},
		{"if a:\n  b\nc\n", "0-2 keyword, 3-4 name, 8-9 name, 10-11 name"},
		{"f(\"x${y}\")\n", "0-1 name, 2-4 string, 4-6 hole, 6-7 name, 7-8 hole, 8-9 string"},
		{"f(\"${\"${ 1 }\"}\")\n", "0-1 name, 2-3 string, 3-5 hole, 5-6 string, 6-9 hole, 9-10 number, 10-12 hole, 12-13 string, 13-14 hole, 14-15 string"},
		{"s = <<EOF\n  x\nEOF\n", "0-1 name, 10-17 string"},
		{"\"a\" + \"b\"\n", "0-3 string, 6-9 string"},
		{"def f(a): # if 1\n if a: \n  \"$\"\n", "0-3 keyword, 4-5 name, 6-7 name, 18-20 keyword, 21-22 name, 27-30 string"},
		{"iff = 1\n", "0-3 name, 6-7 number"},
		{"if a:\n  \"b${c\n", "0-2 keyword, 3-4 name, 12-13 name"}, // refused: there is no string yet, and no hole
		{"a = ?", "0-1 name"},
	} {
		if got := told(paint.Spans(l, parse.Parse(l, c.text).Nodes)); got != c.want {
			t.Errorf("P13: %q: %s, want %s", c.text, got, c.want)
		}
	}
}

// sample: a definition, texts of it, and what may come in their midst.
type sample struct {
	defn   string
	texts  []string
	pieces []string
}

// samples: languages whose trees have all that a tree can have: hidden parts, other names, nodes without a byte, no root and several.
func samples() []sample {
	return []sample{
		{sums + `paint n "number"; paint "+" "sign"; paint t "term";`, []string{"1+(2+3)", "((1))", " 12 + 3 ", "1+2+3+4"}, []string{"1", "+", "(", ")", " ", "?"}},
		{little, []string{
			"if a:\n  b = 1\nelse:\n  while c:\n    pass\nd(1, \"x${f(\"y\")}\")\n", "s = <<EOF + <<X\nq\nEOF\nX\nt\n", "x = \"$a${\"${b}\"}\"\nif x:\n\tpass\n", "def f(a, b):\n  if a:\n    return b * 2\n",
		}, []string{"\n", "\n  ", "\n    ", "\"", "${", "}", "<<E", "EOF", "E\n", "a", "1", "(", ")", "pass", ":", "if a:\n  ", "$", "\t", "#", "?"}},
		{`language l; skip / /; token a /a/; rule _s = (e a)* "."?; rule e = "-"?; paint e "x"; paint "-" "y";`, []string{"a", "-a-aa", " - a -a."}, []string{"a", "-", ".", " ", "?"}}, // several roots, or none; some without a byte
		{`language l; token _a /a/; token b /b/; rule _s = (_a | p)*; rule p = "(" _t @ in ")"; rule _t = (_a | b)*; paint in "x"; paint b ""; paint p "z";`, []string{"aa", "(ab)a()", "a(bab)"}, []string{"a", "b", "(", ")", "()", "?"}},
		{`language l; skip / /; token x /x/; rule s = (x @ a | "x" @ b | "y" @ x | p @ a)*; rule p = "<" s ">"; paint "x" "one"; paint a "two"; paint "<" "three"; paint s "four";`, []string{"xy <x> y", "<<y>>", "x"}, []string{"x", "y", "<", ">", " "}}, // a name that is both a token's and a literal's
		{`language l; token a /a+/; token b /b/; rule s = a (b s)?; paint s "deep"; paint b "";`, []string{"abaabaaa", "a", "ababababa"}, []string{"a", "b", "ab"}},
	}
}

// innermost: the class of the innermost node around a byte that a line names: of a parse those around it stand below one another, so it is the last one in their list.
func innermost(paints []api.PaintDef, nodes []api.Node, at int) string {
	var names []string
	for _, n := range nodes {
		if n.From <= at && at < n.To {
			names = append(names, n.Name)
		}
	}
	return plainOf(paints, names)
}

// namesOf: what the nodes of a list are called, and something else.
func namesOf(nodes []api.Node) []string {
	out := []string{"nobody"}
	for _, n := range nodes {
		out = append(out, n.Name)
	}
	return out
}

// 21.3, P8, P13: behind edits, with the definition's lines and with others.
func TestEdited(t *testing.T) {
	r := rand.New(rand.NewSource(213))
	seen := map[string]int{}
	for _, s := range samples() {
		l := loaded(t, s.defn)
		for _, text := range slices.Repeat(s.texts, 6) {
			old := parse.Parse(l, text)
			for range 25 {
				e := api.Edit{At: r.Intn(len(text) + 1), Del: pick(r, 0, 0, 1, 2), Ins: pick(r, append(s.pieces, "")...)}
				if len(text) > 60 {
					e.Del = 30
				}
				behind, now, _, code := incr.Reparse(l, text, old, e)
				if code != api.OK {
					t.Fatalf("%d", code)
				}
				fresh := parse.Parse(l, behind)
				if a, b := paint.Spans(l, now.Nodes), paint.Spans(l, fresh.Nodes); !slices.Equal(a, b) {
					t.Fatalf("21.3, P8: %s: %q: %v, from scratch %v", l.Name, behind, a, b)
				}
				for _, paints := range [][]api.PaintDef{l.Paints, anyPaints(r, 6, namesOf(fresh.Nodes))} {
					got := check(t, paints, fresh.Nodes)
					for x := range len(behind) + 2 {
						if want := innermost(paints, fresh.Nodes, x); at(got, x) != want {
							t.Fatalf("21.3, P13: %s, %+v: %q: %v, at %d want %q", l.Name, paints, behind, got, x, want)
						}
					}
					count(seen, fresh.Code, len(got))
				}
				text, old = behind, now
				if fresh.Code != api.OK && r.Intn(3) > 0 { // else most texts would be refused near their beginning
					text = pick(r, s.texts...)
					old = parse.Parse(l, text)
				}
			}
		}
	}
	enough(t, 300, seen, "OK", "refused", "OK with spans", "refused with spans")
}

// count: what kinds of parses have come up.
func count(seen map[string]int, code api.Errno, spans int) {
	kind := "OK"
	if code != api.OK {
		kind = "refused"
	}
	seen[kind]++
	if spans > 1 {
		seen[kind+" with spans"]++
	}
}

// called: another name for a class.
func called(class string) string {
	if class == "" {
		return ""
	}
	return "new " + strings.Repeat(class, 2)
}

// checkLines: 21.4 of one list of nodes.
func checkLines(t *testing.T, r *rand.Rand, paints []api.PaintDef, nodes []api.Node) int {
	t.Helper()
	want := paint.Spans(lang(paints), nodes)
	otherwise := slices.Clone(paints)
	for i := range otherwise {
		otherwise[i].Class = called(otherwise[i].Class)
	}
	got := paint.Spans(lang(otherwise), nodes)
	again := slices.Clone(want)
	for i := range again {
		again[i].Class = called(again[i].Class)
	}
	if !slices.Equal(got, again) {
		t.Fatalf("21.4: %+v, %+v: with other classes %v, want %v", paints, nodes, got, again)
	}
	unlike := slices.Clone(paints) // the lines that count
	for i := 0; i < len(unlike); i++ {
		name := unlike[i].Name
		unlike = append(unlike[:i+1], slices.DeleteFunc(unlike[i+1:], func(p api.PaintDef) bool { return p.Name == name })...)
	}
	r.Shuffle(len(unlike), func(i, j int) { unlike[i], unlike[j] = unlike[j], unlike[i] })
	if got := paint.Spans(lang(unlike), nodes); !slices.Equal(got, want) {
		t.Fatalf("21.4: %+v, then %+v: %+v: %v, then %v", paints, unlike, nodes, want, got)
	}
	return len(want)
}

// 21.4: the lines in another order, and classes called otherwise.
func TestLines(t *testing.T) {
	r := rand.New(rand.NewSource(214))
	names, spans := []string{"a", "b", "c", "d", "e", ""}, 0
	for range 10000 {
		nodes := anyForest(r, 1+r.Intn(20), names, func() int { return r.Intn(40) - 3 })
		spans += checkLines(t, r, anyPaints(r, 9, names), nodes)
	}
	for _, s := range samples() {
		l := loaded(t, s.defn)
		for _, text := range s.texts {
			nodes := parse.Parse(l, text).Nodes
			for range 100 {
				spans += checkLines(t, r, pick(r, l.Paints, anyPaints(r, 9, namesOf(nodes))), nodes)
			}
		}
	}
	if spans < 10000 {
		t.Errorf("only %d spans", spans)
	}
}
