package parse_test

import (
	"math"
	"slices"
	"strings"
	"testing"

	"trellis/api"
	"trellis/parse"
	"trellis/state"
	"trellis/tree"
)

// The definition of doc/16-parse.md: "+" 1, "(" 2, ")" 3, n 4.
const sums = `language l; skip / +/; token n /[0-9]+/; rule s = t ("+" t)*; rule t = n | "(" s ")";`

// little: the definition of doc/29-trellis.md.
const little = `language little;
mode str;
mode code open;
skip /[ \t]+/;
skip /#[^\n]*/;
token NEWLINE /\n/ when queued;
token NEWLINE /\n([ \t]*(#[^\n]*)?\n)*[ \t]*/ when unqueued do measure;
token INDENT empty when deeper do indent;
token DEDENT empty when shallower do dedent;
token DEDENT empty when ended, indented do drop;
token HERE /<<[A-Z]+/ do enqueue 2;
token BODY body when queued do dequeue;
token QUOTE /"/ do enter str;
token CHARS /[^"$\n]+/ in str;
token CHARS /$/ in str;
token OPEN /${/ in str do enter code;
token CLOSE /}/ in code do leave;
token END /"/ in str do leave;
token NUMBER /[0-9]+/;
token NAME /[a-z_]+/;
rule file = _statement*;
rule _statement = simple | branch | loop | function;
rule simple = _small NEWLINE (text: BODY NEWLINE)*;
rule _small = assign | _expr | "pass" | answer;
rule assign = target: NAME "=" value: _expr;
rule answer = "return" _expr?;
rule branch = "if" test: _expr then: block ("else" other: block)?;
rule loop = "while" test: _expr block;
rule function = "def" name: NAME "(" (NAME ("," NAME)*)? ")" block;
rule block = ":" NEWLINE INDENT _statement+ DEDENT;
rule _expr = sum | _term;
rule sum = left: _expr op: ("+" | "-") right: _term;
rule _term = product | _atom;
rule product = left: _term op: "*" right: _atom;
rule _atom = NAME | NUMBER | string | here | call | "(" _expr ")";
rule call = function: NAME "(" (_expr ("," _expr)*)? ")";
rule here = HERE;
rule string = QUOTE (CHARS | hole)* END;
rule hole = OPEN _expr CLOSE;
paint NAME "name";
paint NUMBER "number";
paint string "string";
paint hole "hole";
paint BODY "string";
paint "if" "keyword";
paint "def" "keyword";
fold block;
mark function name;
mark assign target;
`

// layout: ";" 1, name 2, _in 3, _out 4.
const layout = `language l; skip /\n */ do measure; token name /[a-z]/; token _in empty when deeper do indent; token _out empty when shallower do dedent; token _out empty when ended, indented do drop; rule s = item+; rule item = name (";" | _in s _out);`

// quotes: open 1, close 2, part 3. What opens a string closes it.
const quotes = `language l; mode str; skip / +/; token open /'+/ do enter str 0; token close delim in str do leave; token part /[^']|'/ in str; rule s = (open part* close)*;`

// fixed: definitions with all that trees can show, and all ways in which productions go on.
func fixed() []string {
	const a, b = "language l; skip / +/; token a /a/; ", "token _b /b/; "
	return []string{
		sums, little,
		a + b + `rule stmt = target: a "=" _value @ Val _b; rule _value = a?;`,
		a + b + `rule _s = f: (a | _t)* "." g: _t@n; rule _t = "x" _b | h: "y" u; rule u = ();`,
		a + b + `rule s = f: (a g: _b@n ("," a@m)*)+; `,
		a + b + `rule s = e@x e@y "." f: e e; rule e = a | _b "(" _n@z ")" ; rule _n = ();`,
		a + b + `rule s = _h@w; rule _h = f: (_h@v "+" a) | _b;`,
		a + b + `rule s = f: (g: (h: a "x")? _b)*; `,
		a + `rule _s = a f: _s | ();`,
		a + `rule _s = f: (_s a) | ();`,
		a + `rule s = f: _t "." g: _t; rule _t = "x" f: a* "y" | _h@i; rule _h = ();`,
		a + b + `rule _s = "if" _c@test s2: _s "end" | a; rule _c = a "<" a | _b;`,
		a + b + `rule s = "x"@lit _b@hid a@tok e@rul _h@wrap; rule e = "e"; rule _h = "h" "h";`,
		a + `rule s = h k m a; rule h = (); rule k = h h; rule m = "+" k | ();`,
	}
}

func terms(l ...int) api.Terms {
	var out api.Terms
	for _, n := range l {
		out |= 1 << n
	}
	return out
}

// start: the bytes of the state at the beginning.
func start() string {
	s, _ := state.Encode(state.Start())
	return s
}

func times(n int, s string) string { return strings.Repeat(s, n) }

// ended: what a run is to come to; leaves: how many.
type ended struct {
	code   api.Errno
	at     int
	want   api.Terms
	leaves int
	tree   string
}

func checkEnd(t *testing.T, l api.Lang, text string, want ended) api.Result {
	t.Helper()
	r := parse.Parse(l, text)
	if got := (ended{r.Code, r.At, r.Want, len(r.Leaves), tree.Text(r.Nodes)}); got != want || r.Roots != tree.Roots(r.Nodes) {
		t.Errorf("16.1, 16.2: Parse(%.60q) = %+v with %d roots, want %+v", text, got, r.Roots, want)
	}
	return r
}

// The chapter's table.
func TestExamples(t *testing.T) {
	l := loaded(t, sums).lang
	first, more := terms(2, 4), terms(0, 1)
	r := checkEnd(t, l, "1+23", ended{api.OK, 4, 0, 4, `(s (t (n)) "+" (t (n)))`})
	want := []api.Leaf{
		{Term: 4, Len: 1, Look: 2, Valid: first, After: start()},
		{Term: 1, Len: 1, Look: 1, Valid: more, After: start()},
		{Term: 4, Len: 2, Look: 3, Valid: first, After: start()},
		{Look: 1, Valid: more, After: start()},
	}
	if !slices.Equal(r.Leaves, want) {
		t.Errorf("16.1: %+v, want %+v", r.Leaves, want)
	}
	nodes := []api.Node{
		{Name: "s", Named: true, To: 4, Kids: 3, Leaf: -1},
		{Name: "t", Named: true, To: 1, Kids: 1, Leaf: -1}, {Name: "n", Named: true, To: 1},
		{Name: "+", From: 1, To: 2, Leaf: 1},
		{Name: "t", Named: true, From: 2, To: 4, Kids: 1, Leaf: -1}, {Name: "n", Named: true, From: 2, To: 4, Leaf: 2},
	}
	if !slices.Equal(r.Nodes, nodes) || r.Roots != 1 {
		t.Errorf("16.2: %+v, want %+v", r.Nodes, nodes)
	}
	r = checkEnd(t, l, " 1 ", ended{api.OK, 3, 0, 2, "(s (t (n)))"})
	want = []api.Leaf{{Term: 4, Pad: 1, Len: 1, Look: 3, Valid: first, After: start()}, {Pad: 1, Look: 2, Valid: more, After: start()}}
	if !slices.Equal(r.Leaves, want) || r.Nodes[0].From != 1 || r.Nodes[0].To != 2 {
		t.Errorf("16.1: %+v, want %+v; %+v", r.Leaves, want, r.Nodes)
	}
	r = checkEnd(t, l, "1+", ended{api.ErrSyntax, 2, first, 2, `(t (n)) "+"`})
	if r.Roots != 2 {
		t.Errorf("16.2: %d roots", r.Roots)
	}
	checkEnd(t, l, "1 2", ended{api.ErrSyntax, 2, more, 1, "(n)"})
	checkEnd(t, l, "(1", ended{api.ErrSyntax, 2, terms(1, 3), 2, `"(" (n)`})
	checkEnd(t, l, "", ended{api.ErrSyntax, 0, first, 0, ""})
	checkEnd(t, l, "?", ended{api.ErrSyntax, 0, first, 0, ""})
	checkEnd(t, l, "  ?", ended{api.ErrSyntax, 2, first, 0, ""})
	checkEnd(t, l, "(1)+", ended{api.ErrSyntax, 4, first, 4, `(t "(" (s (t (n))) ")") "+"`})
	checkEnd(t, l, "1+2 +3)", ended{api.ErrSyntax, 6, more, 5, `(t (n)) "+" (t (n)) "+" (n)`})
}

// P15: the texts of doc/29-trellis.md and their trees.
func TestLittle(t *testing.T) {
	l := loaded(t, little).lang
	for text, want := range map[string]string{
		"":                      `(file)`,
		"pass\n":                `(file (simple "pass" (NEWLINE)))`,
		"a = b + 2\n":           `(file (simple (assign target: (NAME) "=" value: (sum left: (NAME) op: "+" right: (NUMBER))) (NEWLINE)))`,
		"if a:\n  b\nc\n":       `(file (branch "if" test: (NAME) then: (block ":" (NEWLINE) (INDENT) (simple (NAME) (NEWLINE)) (DEDENT))) (simple (NAME) (NEWLINE)))`,
		"f(\"x${y}\")\n":        `(file (simple (call function: (NAME) "(" (string (QUOTE) (CHARS) (hole (OPEN) (NAME) (CLOSE)) (END)) ")") (NEWLINE)))`,
		"s = <<EOF\n  x\nEOF\n": `(file (simple (assign target: (NAME) "=" value: (here (HERE))) (NEWLINE) text: (BODY) (NEWLINE)))`,
		"while a:\n pass\n":     `(file (loop "while" test: (NAME) (block ":" (NEWLINE) (INDENT) (simple "pass" (NEWLINE)) (DEDENT))))`,
		"def f(a, b):\n  if a:\n    return b * 2\n  else:\n    pass\n\n# end\ng(1, \"\")\n": `(file (function "def" name: (NAME) "(" (NAME) "," (NAME) ")" (block ":" (NEWLINE) (INDENT) (branch "if" test: (NAME) then: (block ":" (NEWLINE) (INDENT) (simple (answer "return" (product left: (NAME) op: "*" right: (NUMBER))) (NEWLINE)) (DEDENT)) "else" other: (block ":" (NEWLINE) (INDENT) (simple "pass" (NEWLINE)) (DEDENT))) (DEDENT))) (simple (call function: (NAME) "(" (NUMBER) "," (string (QUOTE) (END)) ")") (NEWLINE)))`,
	} {
		r := parse.Parse(l, text)
		if r.Code != api.OK || r.At != len(text) || r.Want != 0 || tree.Text(r.Nodes) != want {
			t.Errorf("P15: Parse(%q) = %d at %d, %s, want %s", text, r.Code, r.At, tree.Text(r.Nodes), want)
		}
	}
	r := parse.Parse(l, "if a:\n  b")
	var want api.Terms
	for i, x := range l.Gram.Terms {
		if x.Lit && slices.Contains([]string{"=", "+", "-", "*", "("}, x.Name) || x.Name == "NEWLINE" {
			want |= 1 << i
		}
	}
	if r.Code != api.ErrSyntax || r.At != 9 || r.Want != want || tree.Text(r.Nodes) != `"if" (NAME) ":" (NEWLINE) (INDENT) (NAME)` {
		t.Errorf("P15: %d at %d, %x, %s", r.Code, r.At, r.Want, tree.Text(r.Nodes))
	}
}

// 16.2: what parts show, and what they do not: hidden tokens, the names and fields of productions that have not ended.
func TestParts(t *testing.T) {
	l := loaded(t, `language l; token a /a/; token _b /b/; rule s = f: x@y _h@z h: (_b g: a)* "." k: _b@w; rule x = a; rule _h = "c" a | ();`).lang
	for _, c := range []struct {
		text string
		code api.Errno
		tree string
	}{
		{"", api.ErrSyntax, ""},
		{"a", api.ErrSyntax, "(a)"},
		{"ac", api.ErrSyntax, `(x (a)) "c"`},
		{"aca", api.ErrSyntax, `(x (a)) "c" (a)`},
		{"ab", api.ErrSyntax, `(x (a))`},
		{"aba", api.ErrSyntax, `(x (a)) (a)`},
		{"abab", api.ErrSyntax, `(x (a)) g: (a)`},
		{"acabaa", api.ErrSyntax, `(x (a)) "c" (a) (a)`},
		{"acababa.", api.ErrSyntax, `(x (a)) "c" (a) g: (a) g: (a) "."`},
		{"aba.b", api.OK, `(s f: (y (a)) (z) g: (a) "." k: (w))`},
		{"aca.b", api.OK, `(s f: (y (a)) (z "c" (a)) "." k: (w))`},
	} {
		r := parse.Parse(l, c.text)
		if r.Code != c.code || r.At != len(r.Leaves) && c.code != api.OK || tree.Text(r.Nodes) != c.tree || r.Roots != tree.Roots(r.Nodes) {
			t.Errorf("16.2: Parse(%q) = %d at %d, %s, want %s", c.text, r.Code, r.At, tree.Text(r.Nodes), c.tree)
		}
	}
	l = loaded(t, `language l; skip / +/; token a /a/; rule s = h a k h a; rule h = (); rule k = h;`).lang
	r := parse.Parse(l, " a  a ?") // what becomes nothing stands where the leaf ahead of it ends
	var got []int
	for _, n := range r.Nodes {
		got = append(got, n.From, n.To, n.Leaf)
	}
	if r.Code != api.ErrSyntax || r.At != 6 || tree.Text(r.Nodes) != "(h) (a) (k (h)) (h) (a)" || !slices.Equal(got, []int{0, 0, -1, 1, 2, 0, 2, 2, -1, 2, 2, -1, 2, 2, -1, 4, 5, 1}) {
		t.Errorf("16.2: %d at %d, %s, %v", r.Code, r.At, tree.Text(r.Nodes), got)
	}
	r = parse.Parse(l, " a  a ")
	if last := r.Nodes[len(r.Nodes)-1]; r.Code != api.OK || r.Nodes[0].From != 0 || r.Nodes[0].To != 5 || last.From != 4 || last.Leaf != 1 {
		t.Errorf("16.2: %+v", r.Nodes)
	}
}

// 16.1: the limits, at them and beyond.
func TestLimits(t *testing.T) {
	l := loaded(t, "language l; skip / +/; token _a /a/; rule _s = _a*;").lang
	for n, want := range map[int]ended{
		0: {api.OK, 0, 0, 1, ""}, 1: {api.OK, 1, 0, 2, ""}, 65535: {api.OK, 65535, 0, 65536, ""}, 65536: {api.OK, 65536, 0, 65537, ""},
		65537: {api.ErrLeaves, 65536, 3, 65536, ""}, 70000: {api.ErrLeaves, 65536, 3, 65536, ""},
	} {
		checkEnd(t, l, times(n, "a"), want)
	}
	checkEnd(t, l, times(65536, "a")+"  ", ended{api.OK, 65538, 0, 65537, ""})
	checkEnd(t, l, times(65536, "a")+"  a", ended{api.ErrLeaves, 65538, 3, 65536, ""})
	checkEnd(t, l, times(65536, "a")+" ?", ended{api.ErrSyntax, 65537, 3, 65536, ""})
	checkEnd(t, l, times(1<<20, "b"), ended{api.ErrSyntax, 0, 3, 0, ""})
	checkEnd(t, l, times(1<<20-1, " ")+"a", ended{api.OK, 1 << 20, 0, 2, ""})
	for _, text := range []string{times(1<<20+1, "a"), times(1<<20+1, " "), times(1<<21, "?")} {
		checkEnd(t, l, text, ended{api.ErrBig, 0, 0, 0, ""})
	}
}

// 16.1: tokens without a byte: 64 in a row, and no more.
func TestLoops(t *testing.T) {
	const tokens = "language l; skip / +/; token _a /a/; token _e empty; " // _a 1, _e 2
	l := loaded(t, tokens+"rule _s = (_a | _e)*;").lang
	all := terms(0, 1, 2)
	checkEnd(t, l, "", ended{api.ErrLoop, 0, all, 64, ""})
	checkEnd(t, l, "a", ended{api.ErrLoop, 1, all, 65, ""})
	checkEnd(t, l, "a a  ", ended{api.ErrLoop, 5, all, 66, ""}) // the first one has a Pad: it is without a byte all the same
	checkEnd(t, l, " ?", ended{api.ErrLoop, 1, all, 64, ""})
	checkEnd(t, l, times(65471, "a"), ended{api.ErrLoop, 65471, all, 65535, ""})
	checkEnd(t, l, times(65472, "a"), ended{api.ErrLoop, 65472, all, 65536, ""}) // ErrLeaves would be so, too
	checkEnd(t, l, times(65473, "a"), ended{api.ErrLeaves, 65473, all, 65536, ""})
	l = loaded(t, tokens+"rule _s = _t*; rule _t = "+times(64, "_e ")+"_a;").lang // a token with a byte comes between
	checkEnd(t, l, "aaa", ended{api.ErrSyntax, 3, terms(1), 3*65 + 64, ""})
	l = loaded(t, tokens+"rule _s = _a "+times(64, "_e ")+";").lang
	checkEnd(t, l, "a", ended{api.OK, 1, 0, 66, ""})
	checkEnd(t, l, "ab", ended{api.ErrSyntax, 1, 1, 65, ""})
	l = loaded(t, tokens+"rule _s = _a "+times(65, "_e ")+";").lang
	checkEnd(t, l, "a", ended{api.ErrLoop, 1, terms(2), 65, ""})
	checkEnd(t, l, "a  ", ended{api.ErrLoop, 3, terms(2), 65, ""})
	// each of them behind a blank
	l = loaded(t, "language l; flag f; skip / / when flag f do clear f; token _e empty do set f; rule _s = _e*;").lang
	checkEnd(t, l, times(70, " "), ended{api.ErrLoop, 64, terms(0, 1), 64, ""})
}

// 16.1: what actions refuse with.
func TestActions(t *testing.T) {
	const a = "language l; mode m open; token a /a/; "
	for _, c := range []struct {
		lines, text string
		want        ended
	}{
		{`token b /b/ do leave; rule s = a* b;`, "aab", ended{api.ErrAct, 2, terms(1, 2), 2, "(a) (a)"}},
		{`token b /b/ do leave; rule s = a* b;`, "aa", ended{api.ErrSyntax, 2, terms(1, 2), 2, "(a) (a)"}},
		{`skip /b/ do leave; rule s = a;`, "ba", ended{api.ErrAct, 0, terms(1), 0, ""}},
		{`skip / /; skip /b/ do dedent; rule s = a*;`, "a  ba", ended{api.ErrAct, 3, terms(0, 1), 1, "(a)"}},
		{`token _b /b/ do enter m; rule s = (a | _b)*;`, times(16, "b") + "ab", ended{api.ErrFrames, 17, 7, 17, "(a)"}},
		{`token _b /b/ do enter m; rule s = (a | _b)*;`, times(16, "b") + "a", ended{api.OK, 17, 0, 18, "(s (a))"}},
		{`token _b /b[0-9]*/ do enqueue 1; rule s = (a | _b)*;`, "b", ended{api.ErrDelim, 0, 7, 0, ""}},
		{`token _b /b[0-9]*/ do enqueue 1; rule s = (a | _b)*;`, "ab" + times(17, "1"), ended{api.ErrDelim, 1, 7, 1, "(a)"}},
		{`token _b /b[0-9]*/ do enqueue 1; rule s = (a | _b)*;`, times(9, "b1"), ended{api.ErrQueue, 16, 7, 8, ""}},
		{`skip /\n */ do measure; token _in empty when deeper do indent; rule s = (a | _in)*;`, "a\n" + times(65537, " ") + "a", ended{api.ErrWidth, 1, 7, 1, "(a)"}},
		{`skip /\n */ do measure; token _in empty when deeper do indent; rule s = (a | _in)*;`, "a\n" + times(65536, " ") + "a", ended{api.OK, 65539, 0, 4, "(s (a) (a))"}},
		{`token b /b/ do measure, indent; rule s = (a | b)*;`, "ba\n", ended{api.ErrSyntax, 2, 7, 2, "(b) (a)"}},
		{`token b /b/ do measure, indent; rule s = (a | b)*;`, "abb", ended{api.ErrAct, 2, 7, 2, "(a) (b)"}},
	} {
		checkEnd(t, loaded(t, a+c.lines).lang, c.text, c.want)
	}
	deep := ""
	for i := range 33 {
		deep += "a\n" + times(i+1, " ")
	}
	l := loaded(t, a+`skip /\n */ do measure; token _in empty when deeper do indent; rule s = (a | _in)*;`).lang
	r := parse.Parse(l, deep+"a")
	if r.Code != api.ErrIndents || r.At != len(deep) || r.Want != 7 || len(r.Leaves) != 65 {
		t.Errorf("16.1: %d at %d, %d leaves", r.Code, r.At, len(r.Leaves))
	}
}

// 16.1: layout, and modes with delimiters.
func TestLayout(t *testing.T) {
	l := loaded(t, layout).lang
	checkEnd(t, l, "a\n  b;\nc;", ended{api.OK, 9, 0, 8, `(s (item (name) (s (item (name) ";"))) (item (name) ";"))`})
	checkEnd(t, l, "a\n  b;", ended{api.OK, 6, 0, 6, `(s (item (name) (s (item (name) ";"))))`})
	checkEnd(t, l, "a\n  b;\n c;", ended{api.ErrSyntax, 8, terms(0, 2), 5, `(name) (s (item (name) ";"))`})
	checkEnd(t, l, "a\nb;", ended{api.ErrSyntax, 2, terms(1, 3), 1, "(name)"})
	l = loaded(t, quotes).lang
	r := checkEnd(t, l, "''x'y'' 'a''b", ended{api.ErrSyntax, 13, terms(2, 3), 10, `(open) (part) (part) (part) (close) (open) (part) (close) (open) (part)`})
	in, _ := state.Encode(api.State{Pending: -1, Frames: []api.Frame{{Delim: "''"}}})
	if r.Leaves[0] != (api.Leaf{Term: 1, Len: 2, Look: 3, Valid: terms(0, 1), After: in}) || r.Leaves[4].After != start() {
		t.Errorf("16.1: %+v", r.Leaves)
	}
}

// 16.4: what can stand, what cannot.
func TestFollow(t *testing.T) {
	l := loaded(t, sums).lang
	n, plus, end := api.Leaf{Term: 4, Len: 1}, api.Leaf{Term: 1, Pad: 1, Len: 1}, api.Leaf{}
	for i, c := range []struct {
		leaves []api.Leaf
		tree   string
		valid  api.Terms
		ok     bool
	}{
		{nil, "", terms(2, 4), true},
		{[]api.Leaf{}, "", terms(2, 4), true},
		{[]api.Leaf{n}, "(n)", terms(0, 1), true},
		{[]api.Leaf{n, end}, "(s (t (n)))", 0, true},
		{[]api.Leaf{n, {Pad: 3, Len: 2, Look: -5, Valid: 99, After: "?"}}, "(s (t (n)))", 0, true},
		{[]api.Leaf{{Term: 4, Look: -1, Valid: 1, After: "?"}, plus}, `(t (n)) "+"`, terms(2, 4), true},
		{[]api.Leaf{n, plus, n, end}, `(s (t (n)) "+" (t (n)))`, 0, true},
		{[]api.Leaf{end}, "", 0, false},
		{[]api.Leaf{n, end, end}, "", 0, false},
		{[]api.Leaf{n, end, plus}, "", 0, false},
		{[]api.Leaf{n, plus, end}, "", 0, false},
		{[]api.Leaf{n, n}, "", 0, false},
		{[]api.Leaf{n, n, n}, "", 0, false},
		{[]api.Leaf{{Term: 5}}, "", 0, false},
		{[]api.Leaf{{Term: -1}}, "", 0, false},
		{[]api.Leaf{{Term: 64}}, "", 0, false},
		{[]api.Leaf{{Term: 68}}, "", 0, false},
		{[]api.Leaf{{Term: math.MaxInt}}, "", 0, false},
		{[]api.Leaf{{Term: math.MinInt}}, "", 0, false},
		{[]api.Leaf{{Term: 4, Pad: -1}}, "", 0, false},
		{[]api.Leaf{{Term: 4, Pad: 3, Len: -1}}, "", 0, false},
		{[]api.Leaf{n, {Pad: -1}}, "", 0, false},
		{[]api.Leaf{n, {Len: -1}}, "", 0, false},
		{[]api.Leaf{n, {Pad: math.MinInt, Len: math.MaxInt}}, "", 0, false},
		{[]api.Leaf{{Term: 4, Len: 1 << 20}}, "(n)", terms(0, 1), true},
		{[]api.Leaf{{Term: 4, Len: 1 << 20}, end}, "(s (t (n)))", 0, true},
		{[]api.Leaf{{Term: 4, Len: 1 << 20}, {Pad: 1}}, "", 0, false},
		{[]api.Leaf{{Term: 4, Len: 1 << 20}, {Len: 1}}, "", 0, false},
		{[]api.Leaf{{Term: 4, Pad: 1<<20 - 1, Len: 1}}, "(n)", terms(0, 1), true},
		{[]api.Leaf{{Term: 4, Pad: 1 << 20, Len: 1}}, "", 0, false},
		{[]api.Leaf{{Term: 4, Pad: 1<<20 + 1}}, "", 0, false},
		{[]api.Leaf{n, {Term: 1, Pad: 1<<20 - 2, Len: 1}, {Term: 4}}, `(t (n)) "+" (n)`, terms(0, 1), true},
		{[]api.Leaf{n, {Term: 1, Pad: 1<<20 - 2, Len: 1}, {Term: 4, Len: 1}}, "", 0, false},
		{[]api.Leaf{{Term: 4, Pad: math.MaxInt, Len: math.MaxInt}}, "", 0, false},
		{[]api.Leaf{n, {Term: 1, Pad: math.MaxInt, Len: 1}}, "", 0, false},
		{[]api.Leaf{n, {Term: 1, Pad: 1, Len: math.MaxInt}}, "", 0, false},
	} {
		nodes, v, ok := parse.Follow(l, c.leaves)
		if tree.Text(nodes) != c.tree || v != c.valid || ok != c.ok || !ok && len(nodes) > 0 {
			t.Errorf("16.4: %d: Follow(%+v) = %s, %x, %v", i, c.leaves, tree.Text(nodes), v, ok)
		}
	}
	nodes, _, _ := parse.Follow(l, []api.Leaf{n, plus, {Term: 4, Pad: 2, Len: 3}, {Pad: 7}})
	if nodes[0].To != 8 || nodes[2].To != 1 || nodes[3].From != 2 || nodes[3].To != 3 || nodes[5].From != 5 || nodes[5].Leaf != 2 {
		t.Errorf("16.4: %+v", nodes)
	}
}

// 16.4: as many leaves as there may be, the end not counted.
func TestFollowMany(t *testing.T) {
	l := loaded(t, "language l; token _a /a/; rule _s = _a*;").lang
	for _, n := range []int{65535, 65536, 65537, 65538, 200000} {
		leaves := slices.Repeat([]api.Leaf{{Term: 1}}, n)
		_, v, ok := parse.Follow(l, leaves)
		_, w, all := parse.Follow(l, append(leaves, api.Leaf{}))
		if fits := n <= 65536; ok != fits || all != fits || ok && v != 3 || w != 0 {
			t.Errorf("16.4: %d leaves: %x, %v, with the end %x, %v", n, v, ok, w, all)
		}
	}
}
