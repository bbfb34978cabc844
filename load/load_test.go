package load_test

import (
	"slices"
	"strconv"
	"strings"
	"testing"

	"trellis/api"
	"trellis/load"
	"trellis/regex"
)

// little: the definition of doc/29-trellis.md.
const little = `language little;
mode str;
mode code open;
skip /[ \t]+/;
skip /#[^\n]*/;
token NEWLINE /\n/ when queued;
token NEWLINE /\n([ \t]*(#[^\n]*)?\n)*[ \t]*/ when unqueued do measure;
token INDENT empty when deeper do indent;
token DEDENT empty when shallower do dedent;
token DEDENT empty when ended, indented do drop;
token HERE /<<[A-Z]+/ do enqueue 2;
token BODY body when queued do dequeue;
token QUOTE /"/ do enter str;
token CHARS /[^"$\n]+/ in str;
token CHARS /$/ in str;
token OPEN /${/ in str do enter code;
token CLOSE /}/ in code do leave;
token END /"/ in str do leave;
token NUMBER /[0-9]+/;
token NAME /[a-z_]+/;
rule file = _statement*;
rule _statement = simple | branch | loop | function;
rule simple = _small NEWLINE (text: BODY NEWLINE)*;
rule _small = assign | _expr | "pass" | answer;
rule assign = target: NAME "=" value: _expr;
rule answer = "return" _expr?;
rule branch = "if" test: _expr then: block ("else" other: block)?;
rule loop = "while" test: _expr block;
rule function = "def" name: NAME "(" (NAME ("," NAME)*)? ")" block;
rule block = ":" NEWLINE INDENT _statement+ DEDENT;
rule _expr = sum | _term;
rule sum = left: _expr op: ("+" | "-") right: _term;
rule _term = product | _atom;
rule product = left: _term op: "*" right: _atom;
rule _atom = NAME | NUMBER | string | here | call | "(" _expr ")";
rule call = function: NAME "(" (_expr ("," _expr)*)? ")";
rule here = HERE;
rule string = QUOTE (CHARS | hole)* END;
rule hole = OPEN _expr CLOSE;
paint NAME "name";
paint NUMBER "number";
paint string "string";
paint hole "hole";
paint BODY "string";
paint "if" "keyword";
paint "def" "keyword";
fold block;
mark function name;
mark assign target;
`

// loaded: fails if the text is refused, or told otherwise than by the chapter's words.
func loaded(t *testing.T, text string) api.Lang {
	t.Helper()
	l, f := load.Load(text)
	want, fault := plainLoad(text)
	if f != (api.Fault{}) || fault != f || !alike(l, want) {
		t.Fatalf("14.1: Load(%.200q): %+v, the tests' own words say %+v; the same language: %v", text, f, fault, alike(l, want))
	}
	return l
}

// refused: fails unless the text is, with that fault and nothing beside it.
func refused(t *testing.T, text string, code api.Errno, at int) {
	t.Helper()
	l, f := load.Load(text)
	if f != (api.Fault{Code: code, At: at}) || !alike(l, api.Lang{}) {
		t.Errorf("14.1: Load(%.200q): %+v, want %d at %d; no language beside it: %v", text, f, code, at, alike(l, api.Lang{}))
	}
	if _, want := plainLoad(text); want != (api.Fault{Code: code, At: at}) {
		t.Errorf("%.200q: the tests' own words say %+v", text, want)
	}
}

func re(t *testing.T, text string) []api.ReNode {
	t.Helper()
	l, code, _ := regex.Parse(text)
	if code != api.OK {
		t.Fatal(text)
	}
	return l
}

func TestExample(t *testing.T) {
	got := loaded(t, "language l; token a /a/; rule s = a s | a;")
	want := api.Lang{
		Name: "l",
		Gram: api.Gram{
			Terms: []api.TermDef{{}, {Name: "a"}},
			Syms:  []api.Sym{{Name: "s", Kind: api.SymShown}},
			Prods: []api.Prod{{Lhs: -1, Rhs: []api.Ref{{Sym: 2}}}, {Lhs: 0, Rhs: []api.Ref{{Sym: 1}, {Sym: 2}}}, {Lhs: 0, Rhs: []api.Ref{{Sym: 1}}}},
		},
		Rules: []api.Rule{{Term: 1, Pat: api.PatRegex, Re: re(t, "a"), In: []int{-1}}},
		Table: api.Table{
			Actions: [][]api.Action{{{}, {Kind: api.ActionShift, N: 1}}, {{Kind: api.ActionReduce, N: 2}, {Kind: api.ActionShift, N: 1}}, {{Kind: api.ActionAccept}, {}}, {{Kind: api.ActionReduce, N: 1}, {}}},
			Gotos:   [][]int{{2}, {3}, {-1}, {-1}},
		},
	}
	if !alike(got, want) {
		t.Errorf("14.1: %+v, want %+v", got, want)
	}
}

// Every part of a definition has its place in the language.
func TestAllParts(t *testing.T) {
	got := loaded(t, `language lang; inject y other; mark s f; fold s; fold y; paint "x" "k"; paint a ""; rule s = f: a s | "x" b @ y | ();
		token a /a/; token b "bb" in m, _n when noflag g, ended do clear g, enter _n, enqueue 3; skip / +/; flag f; flag g; mode m open; mode _n; mode o open;`)
	want := api.Lang{
		Name:  "lang",
		Modes: []api.ModeDef{{Name: "m", Open: true}, {Name: "_n"}, {Name: "o", Open: true}},
		Gram: api.Gram{
			Terms: []api.TermDef{{}, {Name: "x", Lit: true}, {Name: "a"}, {Name: "b"}},
			Syms:  []api.Sym{{Name: "s", Kind: api.SymShown}},
			Prods: []api.Prod{{Lhs: -1, Rhs: []api.Ref{{Sym: 4}}}, {Lhs: 0, Rhs: []api.Ref{{Sym: 2, Field: "f"}, {Sym: 4}}}, {Lhs: 0, Rhs: []api.Ref{{Sym: 1}, {Sym: 3, As: "y"}}}, {Lhs: 0}},
		},
		Rules: []api.Rule{
			{Term: 1, Pat: api.PatLit, Lit: "x", In: []int{-1, 0, 2}},
			{Term: 2, Pat: api.PatRegex, Re: re(t, "a"), In: []int{-1, 0, 2}},
			{Term: 3, Pat: api.PatLit, Lit: "bb", In: []int{0, 1}, Tests: []api.Test{{Kind: api.TestNoFlag, N: 1}, {Kind: api.TestEnded}}, Acts: []api.Act{{Kind: api.ActClear, N: 1}, {Kind: api.ActEnter, N: -1, M: 1}, {Kind: api.ActEnqueue, N: 3}}},
			{Term: -1, Pat: api.PatRegex, Re: re(t, " +"), In: []int{-1, 0, 2}},
		},
		Paints:  []api.PaintDef{{Name: "x", Class: "k"}, {Name: "a"}},
		Folds:   []string{"s", "y"},
		Marks:   []api.MarkDef{{Name: "s", Field: "f"}},
		Injects: []api.InjectDef{{Name: "y", Lang: "other"}},
	}
	want.Table = got.Table
	if !alike(got, want) || len(got.Table.Actions) != 6 || len(got.Table.Gotos) != 6 {
		t.Errorf("14.1: %+v, want %+v", got, want)
	}
}

// The premise that is to be met: the definition of the whole is loaded.
func TestLittle(t *testing.T) {
	l := loaded(t, little)
	lits, scans := 14, strings.Count(little, "token ")+strings.Count(little, "skip ")
	if l.Name != "little" || len(l.Modes) != 2 || len(l.Paints) != 7 || len(l.Folds) != 1 || len(l.Marks) != 2 || len(l.Injects) != 0 || len(l.Rules) != lits+scans || len(l.Gram.Terms) != 1+lits+12 {
		t.Errorf("14.1: %+v, %d rules, %d tokens", l.Paints, len(l.Rules), len(l.Gram.Terms))
	}
	// without one line of it something is amiss, unless the line is one that nothing leans on
	lines := strings.SplitAfter(little, "\n")
	for i, s := range lines {
		rest := strings.Join(slices.Concat(lines[:i], lines[i+1:]), "")
		free := s == "" || slices.ContainsFunc([]string{"skip", "paint", "fold", "mark", "token NEWLINE", "token DEDENT", "token CHARS", "rule file"}, func(p string) bool { return strings.HasPrefix(s, p) })
		if _, f := load.Load(rest); (f == (api.Fault{})) != free {
			t.Errorf("P10: without the line %q: %+v", s, f)
		}
	}
}

const a = "language l; token a /a/; "

func TestExamplesOfFaults(t *testing.T) {
	refused(t, a+"rule s = s s | a;", api.ErrConflict, 25)
	refused(t, a+"rule s = a x; rule x = y | z; rule y = a; rule z = a;", api.ErrConflict, 55)
	refused(t, a+"rule s = (a?)*;", api.ErrConflict, 25)
	refused(t, "language l; rule s = t;", api.ErrUnknown, 21)
	refused(t, "language l; rule s =", api.ErrWord, 20)
}

func times(n int, s string) string { return strings.Repeat(s, n) }

// numbered: the text so many times, with numbers for N.
func numbered(n int, s string) string {
	out := ""
	for i := range n {
		out += strings.ReplaceAll(s, "N", strconv.Itoa(i))
	}
	return out
}

// Every code with which a text may be refused, each at its place.
func TestFaults(t *testing.T) {
	for _, c := range []struct {
		text string
		code api.Errno
		at   int
	}{
		// the words
		{times(api.MaxDefn+1, " "), api.ErrLong, api.MaxDefn},
		{a + "rule s = a;" + times(api.MaxDefn, "#"), api.ErrLong, api.MaxDefn},
		{"\x00", api.ErrByte, 0},
		{"language l; &", api.ErrByte, 12},
		{"language l; rule s = \"x", api.ErrString, 21},
		{"language l; rule s = \"\\q\";", api.ErrString, 22},
		{"language l; mode " + times(25, "n") + ";", api.ErrName, 17},
		{"language l; skip body do enqueue 65536;", api.ErrNumber, 33},
		// the definition
		{"", api.ErrWord, 0},
		{"# nothing", api.ErrWord, 9},
		{"language l", api.ErrWord, 10},
		{"language l; rules s = a;", api.ErrWord, 12},
		{"language l; skip /a(/;", api.ErrRegex, 20},
		{"language l; skip /[b-a]/;", api.ErrClass, 19},
		{"language l; skip /" + times(129, "a") + "/;", api.ErrLarge, 18},
		{"language l; rule s = " + times(33, "("), api.ErrDeep, 21 + 32},
		// whether it is well formed
		{"language l;", api.ErrNoRule, 0},
		{"  language l; mode m; mode m;", api.ErrNoRule, 0},
		{a + "rule s = a; mode m; mode n; mode m;", api.ErrTwice, 53},
		{a + "rule s = a; " + numbered(17, "mode mN;"), api.ErrTerms, 37 + 10*8 + 6*9},
		{a + "rule s = a; flag f; flag f;", api.ErrTwice, 45},
		{a + "rule s = a; " + numbered(17, "flag fN;"), api.ErrTerms, 37 + 10*8 + 6*9},
		{a + "rule s = a; skip body in m;", api.ErrUnknown, 37},
		{a + "rule s = a; skip body when flag f;", api.ErrUnknown, 37},
		{a + "mode m; rule s = a; skip body in m, m;", api.ErrTwice, 45},
		{a + "rule s = a; skip /b*/;", api.ErrNullable, 37},
		{a + "rule s = a; skip \"\";", api.ErrLit, 37},
		{a + "rule s = a \"" + times(17, "x") + "\";", api.ErrLit, 36},
		{a + "rule s = a; skip empty;", api.ErrPattern, 37},
		{a + "rule s = a; rule s = a;", api.ErrTwice, 37},
		{a + "rule s = a; rule a = a;", api.ErrTwice, 37},
		{a + "rule s = a (b @ c)*;", api.ErrUnknown, 37},
		{a + "rule s = a; token b /b/;", api.ErrUnused, 37},
		{a + "rule s = " + numbered(63, "\"xN\" ") + "a;", api.ErrTerms, 0},
		{" " + a + "rule s = " + times(64, "(a)* (a | a) ") + ";", api.ErrProds, 0},
		{" " + a + "rule s = a; " + times(128, "skip body; "), api.ErrProds, 0},
		{a + "rule s = t; rule t = t a;", api.ErrBarren, 25},
		{a + "rule s = a | t; rule t = t a;", api.ErrBarren, 41},
		{a + "rule s = a; rule t = a;", api.ErrStray, 37},
		{a + "rule s = a; rule t = u; rule u = a t;", api.ErrBarren, 37},
		{a + "rule z = a x x; rule x = y y y y y y y y; rule y = u u u u u u u u; rule u = ();", api.ErrHollow, 25},
		{a + "rule s = a; paint b \"c\";", api.ErrUnknown, 37},
		{a + "rule s = a; paint a \"c\"; paint s \"c\"; paint \"a\" \"\";", api.ErrTwice, 63},
		{a + "rule s = a; fold _s;", api.ErrUnknown, 37},
		{a + "rule s = a; fold s; fold s;", api.ErrTwice, 45},
		{a + "rule s = f: a; mark s g;", api.ErrUnknown, 40},
		{a + "rule s = f: a; mark s f; mark s f;", api.ErrTwice, 50},
		{a + "rule s = a; inject b c;", api.ErrUnknown, 37},
		{a + "rule s = a; inject a c; inject a d;", api.ErrTwice, 49},
		// what stands ahead in the chapter's table goes ahead
		{a + "rule s = s s | a; rule t = a;", api.ErrStray, 43},
		{a + "rule s = s s | a b;", api.ErrUnknown, 42},
		{a + "rule s = s s | a; fold t;", api.ErrUnknown, 43},
		{a + "rule s = s s | b; &", api.ErrByte, 43},
		{a + "rule s = s s | b; rule", api.ErrWord, 47},
	} {
		refused(t, c.text, c.code, c.at)
	}
}

// Which rule a conflict is laid to.
func TestConflicts(t *testing.T) {
	for _, c := range []struct {
		rules string
		at    string // what the text has from there on
	}{
		// production 0 has a part: behind s the text may be at its end, or s be a t
		{`rule s = t; rule t = s | "a";`, `rule s`},
		{`rule _s = t; rule t = "a" | _s;`, `rule _s`},
		// the token may be shifted by a production that is less than those that reduce, and by one that is greater
		{`rule s = "a" "b" | t "b"; rule t = "a";`, `rule s`},
		{`rule s = t "b" | u; rule t = "a"; rule u = "a" "b";`, `rule t`},
		{`rule s = t "b" | u; rule u = "a" "b"; rule t = "a";`, `rule u`},
		// a lesser production stands in the set, but another token is behind its dot
		{`rule s = w | t "b" | u; rule w = "a" "z"; rule t = "a"; rule u = "a" "b";`, `rule t`},
		// a lesser one is at its end there, but for another token
		{`rule s = w "z" | t "b" | u "b"; rule w = "a"; rule t = "a"; rule u = "a";`, `rule t`},
		// a lesser one has the token as its Look, but its dot is not at its end
		{`rule s = (w | t | u) "b"; rule w = "a" "z"; rule t = "a"; rule u = "a";`, `rule t`},
		// two conflicts: that in the least state counts, and there that on the least token
		{`rule s = "a" "c" (x | y) | "b" (t | u); rule x = "d"; rule y = "d"; rule t = "d"; rule u = "d";`, `rule t`},
		{`rule s = (x | y) "b" | (t | u) "a"; rule x = "c"; rule y = "c"; rule t = "c"; rule u = "c";`, `rule x`},
		{`rule s = "a" "b" | (x | y) "b" | (t | u) "a"; rule x = "c"; rule y = "c"; rule t = "c"; rule u = "c";`, `rule t`},
		{`rule s = "b" "a" | (x | y) "b" | (t | u) "a"; rule x = "c"; rule y = "c"; rule t = "c"; rule u = "c";`, `rule x`},
		// aux symbols belong to the rule of a part of whose expression they were made
		{`rule s = "x" t; rule t = ("a"?)*;`, `rule t`},
		{`rule s = "x" t u; rule u = ("b" | "b"); rule t = ("a"+)+;`, `rule t`},
		{`rule s = "x" t* u; rule t = "a"; rule u = "y" (f: ("a" ("b" | "b"))*)+;`, `rule u`},
		{`rule s = t u v; rule t = "a"+ "b"*; rule u = ("c" | "d")?; rule v = "e" ("f" ("g"? | "h"? "i"*));`, `rule v`},
		// those of a rule come behind all rules, so a rule's own part is less than an aux one
		{`rule s = "x" t u; rule t = "a"*; rule u = "a" | "b";`, `rule t`},
		{`rule s = ("x" ("a" | "a"))+ t; rule t = "b";`, `rule s`},
		{`rule s = "x"? t; rule t = u; rule u = "x";`, `rule s`},
		// lines of other kinds ahead of it, and behind it
		{`fold s; paint "a" "x"; rule s = s s | "a" | t; rule t = "b"; fold t;`, `rule s`},
		// hidden rules as any
		{`rule s = _x | _y; rule _x = "a"; rule _y = "a";`, `rule _x`},
		{`rule s = "i" s | "i" s "e" s | "x";`, `rule s`},
	} {
		text := "language l; flag f; " + c.rules
		refused(t, text, api.ErrConflict, strings.Index(text, c.at+" "))
	}
}

// 14.3: what is told apart by one token ahead, and what is not.
func TestJustThese(t *testing.T) {
	for _, rules := range []string{
		`rule s = "a";`,
		`rule s = ();`,
		`rule _s = ();`,
		`rule s = "a" s "b" | ();`,
		`rule s = s "a" | ();`,
		`rule s = "a"* "a";`,
		`rule s = "i" s "t" s "e" s | "x";`,
		`rule s = s "+" t | t; rule t = "n" | "(" s ")";`,
		`rule s = "a" e "c" | "a" f "d" | "b" f "c" | "b" e "d"; rule e = "e"; rule f = "e";`, // in merged sets there would be a conflict
		`rule s = x "b" "c" | y "b" "d"; rule x = "a"; rule y = "a" "z";`,
	} {
		loaded(t, "language l; "+rules)
	}
	for _, rules := range []string{
		`rule s = "a" | "a";`,
		`rule s = s | "a";`,
		`rule s = "a" s "a" | ();`,
		`rule s = "a"? "a";`,
		`rule s = ("a"*)?;`,
		`rule s = s "+" s | "n";`,
	} {
		refused(t, "language l; "+rules, api.ErrConflict, 12)
	}
	// two tokens ahead would be needed
	refused(t, `language l; rule s = x "b" "c" | y "b" "d"; rule x = "a"; rule y = "a";`, api.ErrConflict, 44)
}

// chain: a definition whose automaton has two states and one more for each a.
func chain(n int) string { return a + "flag f; rule s = " + times(n, "a ") + "; " }

// 14.1, 14.3: as many states as there may be, and one more; ErrStates stands where the first rule begins.
func TestStates(t *testing.T) {
	if l := loaded(t, chain(api.MaxStates-2)); len(l.Table.Actions) != api.MaxStates {
		t.Errorf("14.3: %d states", len(l.Table.Actions))
	}
	refused(t, chain(api.MaxStates-1), api.ErrStates, 33)
	refused(t, a+"rule s = t; rule t = "+times(api.MaxStates-2, "a ")+";", api.ErrStates, 25)
	// a conflict does not count if there are too many
	refused(t, a+"rule s = t | a | a; rule t = "+times(api.MaxStates, "a ")+";", api.ErrStates, 25)
	refused(t, a+"rule s = t | a | a; rule t = "+times(api.MaxStates-3, "a ")+";", api.ErrConflict, 25)
}

// The greatest definitions that there may be.
func TestGreatest(t *testing.T) {
	// all tokens, all scanning rules
	text := "language l; rule s = " + numbered(63, "\"xN\" ") + ";" + times(65, " skip body;")
	if l := loaded(t, text); len(l.Gram.Terms) != 64 || len(l.Rules) != api.MaxRules {
		t.Errorf("14.1: %d tokens, %d rules", len(l.Gram.Terms), len(l.Rules))
	}
	// as many bytes as there may be
	text = a + "rule s = a;"
	loaded(t, text+times(api.MaxDefn-len(text), "#"))
	// as many symbols as there may be, with great sets
	text = "language l; rule s = " + times(40, "x ") + "; rule x = " + numbered(62, "wN | ") + "w62;" + numbered(63, "rule wN = yN \"N\"; rule yN = ();")
	if l := loaded(t, text); len(l.Gram.Syms) != api.MaxSyms {
		t.Errorf("14.1: %d symbols", len(l.Gram.Syms))
	}
}
