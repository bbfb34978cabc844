package defn_test

import (
	"math/rand"
	"strings"
	"testing"

	"trellis/api"
	"trellis/defn"
	"trellis/words"
)

// sameParse: 9.1 of a text, P4 with it.
func sameParse(t *testing.T, text string) answer {
	t.Helper()
	got, want := parse(text), plainParse(text)
	if !alike(got, want) {
		t.Fatalf("9.1: Parse(%q) = %+v, want %+v", text, got, want)
	}
	return got
}

func node(op api.GOp, text string, a, b int) api.GNode {
	return api.GNode{Op: op, Text: text, A: a, B: b}
}

// 9.1: the chapter's examples, and each line in each of its forms.
func TestParseLines(t *testing.T) {
	letter := api.ReNode{Op: api.ReClass, Set: api.Class{0, 1 << ('a' - 64)}, A: -1, B: -1}
	type scan = api.ScanDef
	for _, c := range []struct {
		text string
		d    api.Defn
		s    api.Spots
	}{
		{"language l;", api.Defn{}, api.Spots{}},
		{" # c\n language\tl ; # c", api.Defn{}, api.Spots{}},
		{"language l; mode m open; token A /a+/ in m when flag f, ended do set f, enter m 1;",
			api.Defn{Modes: []api.ModeDef{{Name: "m", Open: true}}, Scans: []scan{{Term: "A", Pat: 1, Re: []api.ReNode{letter, {Op: api.RePlus, A: 0, B: -1}}, In: []string{"m"}, Tests: []api.TestDef{{Kind: 5, Name: "f"}, {Kind: 7}}, Acts: []api.ActDef{{Kind: 9, Name: "f"}, {Kind: 7, Name: "m", N: 1}}}}},
			api.Spots{Modes: []int{12}, Scans: []int{25}}},
		{"language l;mode m;mode open;mode open open;", api.Defn{Modes: []api.ModeDef{{Name: "m"}, {Name: "open"}, {Name: "open", Open: true}}}, api.Spots{Modes: []int{11, 18, 28}}},
		{"language l;flag f;flag flag;", api.Defn{Flags: []string{"f", "flag"}}, api.Spots{Flags: []int{11, 18}}},
		{`language l;skip"a";skip empty;token T delim;token empty body;`, api.Defn{Scans: []scan{{Pat: 2, Lit: "a"}, {Pat: 3}, {Term: "T", Pat: 4}, {Term: "empty", Pat: 5}}}, api.Spots{Scans: []int{11, 19, 30, 44}}},
		{`language l;skip"";skip/a/;`, api.Defn{Scans: []scan{{Pat: 2}, {Pat: 1, Re: []api.ReNode{letter}}}}, api.Spots{Scans: []int{11, 18}}},
		{"language l;skip empty in in,when,do;skip empty in when when flag do do set in;skip empty when flag when do clear do;skip empty do leave;",
			api.Defn{Scans: []scan{{Pat: 3, In: []string{"in", "when", "do"}}, {Pat: 3, In: []string{"when"}, Tests: []api.TestDef{{Kind: 5, Name: "do"}}, Acts: []api.ActDef{{Kind: 9, Name: "in"}}}, {Pat: 3, Tests: []api.TestDef{{Kind: 5, Name: "when"}}, Acts: []api.ActDef{{Kind: 10, Name: "do"}}}, {Pat: 3, Acts: []api.ActDef{{Kind: 8}}}}},
			api.Spots{Scans: []int{11, 36, 78, 116}}},
		{"language l;skip empty when deeper,shallower,queued,unqueued,flag f,noflag g,ended,indented;",
			api.Defn{Scans: []scan{{Pat: 3, Tests: []api.TestDef{{Kind: 1}, {Kind: 2}, {Kind: 3}, {Kind: 4}, {Kind: 5, Name: "f"}, {Kind: 6, Name: "g"}, {Kind: 7}, {Kind: 8}}}}}, api.Spots{Scans: []int{11}}},
		{"language l;skip empty do measure,indent,dedent,drop,enqueue 0,dequeue,enter m,enter m 0,enter m 65535,leave,set f,clear g,enqueue 065535;",
			api.Defn{Scans: []scan{{Pat: 3, Acts: []api.ActDef{{Kind: 1}, {Kind: 2}, {Kind: 3}, {Kind: 4}, {Kind: 5}, {Kind: 6}, {Kind: 7, Name: "m", N: -1}, {Kind: 7, Name: "m"}, {Kind: 7, Name: "m", N: 65535}, {Kind: 8}, {Kind: 9, Name: "f"}, {Kind: 10, Name: "g"}, {Kind: 5, N: 65535}}}}}, api.Spots{Scans: []int{11}}},
		{`language l;paint A"k";paint"x""";paint"A""A";fold s;mark s f;inject A l;`, api.Defn{Paints: []api.PaintDef{{Name: "A", Class: "k"}, {Name: "x"}, {Name: "A", Class: "A"}}, Folds: []string{"s"}, Marks: []api.MarkDef{{Name: "s", Field: "f"}}, Injects: []api.InjectDef{{Name: "A", Lang: "l"}}}, api.Spots{Paints: []int{11, 22, 33}, Folds: []int{45}, Marks: []int{52}, Injects: []int{61}}},
	} {
		c.d.Name = "l"
		if got := sameParse(t, c.text); !alike(got, answer{defn: c.d, spots: c.s}) {
			t.Errorf("9.1: Parse(%q) = %+v, want %+v and %+v", c.text, got, c.d, c.s)
		}
	}
}

// 9.1: expressions: their nodes, and where each of them stands.
func TestParseExprs(t *testing.T) {
	const nm, lit, empty, seq, alt, star, plus, opt, field, as = api.GName, api.GLit, api.GEmpty, api.GSeq, api.GAlt, api.GStar, api.GPlus, api.GOpt, api.GField, api.GAs
	a, b, c := node(nm, "a", -1, -1), node(nm, "b", -1, -1), node(nm, "c", -1, -1)
	for _, x := range []struct {
		text   string
		nodes  []api.GNode
		places []int
	}{
		{`f: a* | ( ) "x" @ y`, []api.GNode{a, node(field, "f", 0, -1), node(star, "", 1, -1), node(empty, "", -1, -1), node(lit, "x", -1, -1), node(as, "y", 4, -1), node(seq, "", 3, 5), node(alt, "", 2, 6)}, []int{3, 0, 4, 8, 12, 16, 8, 6}},
		{`a`, []api.GNode{a}, []int{0}}, {`""`, []api.GNode{node(lit, "", -1, -1)}, []int{0}}, {`( )`, []api.GNode{node(empty, "", -1, -1)}, []int{0}}, {`(a)`, []api.GNode{a}, []int{1}}, {`((()))`, []api.GNode{node(empty, "", -1, -1)}, []int{2}},
		{`a b c`, []api.GNode{a, b, node(seq, "", 0, 1), c, node(seq, "", 2, 3)}, []int{0, 2, 0, 4, 0}},
		{`a (b c)`, []api.GNode{a, b, c, node(seq, "", 1, 2), node(seq, "", 0, 3)}, []int{0, 3, 5, 3, 0}},
		{`a|b|c`, []api.GNode{a, b, node(alt, "", 0, 1), c, node(alt, "", 2, 3)}, []int{0, 2, 1, 4, 3}},
		{`a|(b|c)`, []api.GNode{a, b, c, node(alt, "", 1, 2), node(alt, "", 0, 3)}, []int{0, 3, 5, 4, 1}},
		{`(a|b) c`, []api.GNode{a, b, node(alt, "", 0, 1), c, node(seq, "", 2, 3)}, []int{1, 3, 2, 6, 2}},
		{`a+*?`, []api.GNode{a, node(plus, "", 0, -1), node(star, "", 1, -1), node(opt, "", 2, -1)}, []int{0, 1, 2, 3}},
		{`a b*`, []api.GNode{a, b, node(star, "", 1, -1), node(seq, "", 0, 2)}, []int{0, 2, 3, 0}},
		{`(a b)* c`, []api.GNode{a, b, node(seq, "", 0, 1), node(star, "", 2, -1), c, node(seq, "", 3, 4)}, []int{1, 3, 1, 5, 7, 5}},
		{`f:a b`, []api.GNode{a, node(field, "f", 0, -1), b, node(seq, "", 1, 2)}, []int{2, 0, 4, 0}},
		{`f:(a b)`, []api.GNode{a, b, node(seq, "", 0, 1), node(field, "f", 2, -1)}, []int{3, 5, 3, 0}},
		{`f:(g:a)`, []api.GNode{a, node(field, "g", 0, -1), node(field, "f", 1, -1)}, []int{5, 3, 0}},
		{`f:(a*)`, []api.GNode{a, node(star, "", 0, -1), node(field, "f", 1, -1)}, []int{3, 4, 0}},
		{`f:a@b*`, []api.GNode{a, node(as, "b", 0, -1), node(field, "f", 1, -1), node(star, "", 2, -1)}, []int{2, 3, 0, 5}},
		{`f:()`, []api.GNode{node(empty, "", -1, -1), node(field, "f", 0, -1)}, []int{2, 0}},
		{`a@b c@b`, []api.GNode{a, node(as, "b", 0, -1), c, node(as, "b", 2, -1), node(seq, "", 1, 3)}, []int{0, 1, 4, 5, 1}},
		{`a@b f:c`, []api.GNode{a, node(as, "b", 0, -1), c, node(field, "f", 2, -1), node(seq, "", 1, 3)}, []int{0, 1, 6, 4, 1}},
		{`rule token`, []api.GNode{node(nm, "rule", -1, -1), node(nm, "token", -1, -1), node(seq, "", 0, 1)}, []int{0, 5, 0}},
	} {
		const head = "language l; rule s ="
		want := answer{defn: api.Defn{Name: "l", Rules: []api.RuleDef{{Name: "s", Expr: x.nodes}}}, spots: api.Spots{Rules: []int{12}, Nodes: [][]int{nil}}}
		for _, p := range x.places {
			want.spots.Nodes[0] = append(want.spots.Nodes[0], p+len(head))
		}
		if got := sameParse(t, head+x.text+";"); !alike(got, want) {
			t.Errorf("9.1: Parse of the expression %q = %+v, want %+v", x.text, got, want)
		}
	}
}

// 9.1: the errors, where they are, and the first of several.
func TestParseErrors(t *testing.T) {
	const l, s = "language l;", "language l;rule s="
	for _, c := range []struct {
		text string
		code api.Errno
		at   int
	}{
		{"", api.ErrWord, 0}, {"language", api.ErrWord, 8}, {"rule s = a;", api.ErrWord, 0}, {"language l; token A;", api.ErrWord, 19}, {"language l; skip /a(/;", api.ErrRegex, 20}, {"language l; rule s = (a;", api.ErrWord, 23}, {"language l; foo x;", api.ErrWord, 12},
		{"  # nothing\n ", api.ErrWord, 13}, {"language l", api.ErrWord, 10}, {"language l # ;", api.ErrWord, 14}, {"language ;", api.ErrWord, 9}, {`"language" l;`, api.ErrWord, 0}, {`language "l";`, api.ErrWord, 9}, {"language l l;", api.ErrWord, 11}, {"Language l;", api.ErrWord, 0}, {";", api.ErrWord, 0}, {"1", api.ErrWord, 0},
		{l + "language m;", api.ErrWord, 11}, {l + ";", api.ErrWord, 11}, {l + `"mode" m;`, api.ErrWord, 11}, {l + "/mode/ m;", api.ErrWord, 11}, {l + "7;", api.ErrWord, 11}, {l + "mode", api.ErrWord, 15}, {l + "modes m;", api.ErrWord, 11},
		{l + "mode;", api.ErrWord, 15}, {l + "mode m closed;", api.ErrWord, 18}, {l + `mode m "open";`, api.ErrWord, 18}, {l + "mode m open open;", api.ErrWord, 23}, {l + "mode m,n;", api.ErrWord, 17}, {l + "flag;", api.ErrWord, 15}, {l + "flag f g;", api.ErrWord, 18}, {l + "flag 1;", api.ErrWord, 16},
		{l + "skip;", api.ErrWord, 15}, {l + "skip A /a/;", api.ErrWord, 16}, {l + "skip 1;", api.ErrWord, 16}, {l + "token /a/;", api.ErrWord, 17}, {l + "token A a;", api.ErrWord, 19}, {l + "token A in m;", api.ErrWord, 19}, {l + "token A /a/ /b/;", api.ErrWord, 23}, {l + "skip empty empty;", api.ErrWord, 22},
		{l + "skip empty in;", api.ErrWord, 24}, {l + "skip empty in m,;", api.ErrWord, 27}, {l + "skip empty in m n;", api.ErrWord, 27}, {l + "skip empty in m in n;", api.ErrWord, 27}, {l + `skip empty "in" m;`, api.ErrWord, 22}, {l + `skip empty in "m";`, api.ErrWord, 25}, {l + "skip empty,", api.ErrWord, 21},
		{l + "skip empty when;", api.ErrWord, 26}, {l + "skip empty when measure;", api.ErrWord, 27}, {l + "skip empty when ended in m;", api.ErrWord, 33}, {l + "skip empty when ended when ended;", api.ErrWord, 33}, {l + "skip empty when flag;", api.ErrWord, 31}, {l + "skip empty when flag f g;", api.ErrWord, 34}, {l + "skip empty when deeper f;", api.ErrWord, 34}, {l + `skip empty when "ended";`, api.ErrWord, 27}, {l + "skip empty when ended,,", api.ErrWord, 33}, {l + "skip empty when flag 1;", api.ErrWord, 32},
		{l + "skip empty do;", api.ErrWord, 24}, {l + "skip empty do ended;", api.ErrWord, 25}, {l + "skip empty do leave when ended;", api.ErrWord, 31}, {l + "skip empty do leave m;", api.ErrWord, 31}, {l + "skip empty do enqueue;", api.ErrWord, 32}, {l + "skip empty do enqueue x;", api.ErrWord, 33}, {l + "skip empty do enqueue 1 1;", api.ErrWord, 35}, {l + "skip empty do enter;", api.ErrWord, 30}, {l + "skip empty do enter 1;", api.ErrWord, 31}, {l + "skip empty do enter m n;", api.ErrWord, 33}, {l + "skip empty do enter m 1 2;", api.ErrWord, 35}, {l + "skip empty do set;", api.ErrWord, 28}, {l + "skip empty do clear f 1;", api.ErrWord, 33}, {l + "skip empty do leave 1;", api.ErrWord, 31}, {l + "skip empty do leave,;", api.ErrWord, 31},
		{l + "paint;", api.ErrWord, 16}, {l + "paint A;", api.ErrWord, 18}, {l + "paint A b;", api.ErrWord, 19}, {l + `paint /a/ "b";`, api.ErrWord, 17}, {l + `paint "a" "b" "c";`, api.ErrWord, 25}, {l + `fold "a";`, api.ErrWord, 16}, {l + "fold a b;", api.ErrWord, 18}, {l + "fold a", api.ErrWord, 17}, {l + "fold a fold b;", api.ErrWord, 18}, {l + "mark a;", api.ErrWord, 17}, {l + "mark a b c;", api.ErrWord, 20}, {l + `mark a "b";`, api.ErrWord, 18}, {l + "inject a;", api.ErrWord, 19}, {l + "inject a b c;", api.ErrWord, 22},
		{l + "rule;", api.ErrWord, 15}, {l + "rule s a;", api.ErrWord, 18}, {l + "rule s : a;", api.ErrWord, 18}, {l + `rule "s" = a;`, api.ErrWord, 16}, {s + ";", api.ErrWord, 18}, {s + "*;", api.ErrWord, 18}, {s + "|a;", api.ErrWord, 18}, {s + "a|;", api.ErrWord, 20}, {s + "a||b;", api.ErrWord, 20}, {s + "a|*;", api.ErrWord, 20}, {s + "/a/;", api.ErrWord, 18}, {s + "1;", api.ErrWord, 18}, {s + "a=b;", api.ErrWord, 19}, {s + "a,b;", api.ErrWord, 19}, {s + "{a};", api.ErrWord, 18},
		{s + "f:;", api.ErrWord, 20}, {s + "f:g:a;", api.ErrWord, 21}, {s + "f:*;", api.ErrWord, 20}, {s + `"f":a;`, api.ErrWord, 21}, {s + "(f):a;", api.ErrWord, 21}, {s + ":a;", api.ErrWord, 18}, {s + "a@b:c;", api.ErrWord, 21}, {s + "f:a@b:c;", api.ErrWord, 23},
		{s + "a@;", api.ErrWord, 20}, {s + `a@"x";`, api.ErrWord, 20}, {s + "()@x;", api.ErrWord, 20}, {s + "(a)@x;", api.ErrWord, 21}, {s + "a@b@c;", api.ErrWord, 21}, {s + "a*@b;", api.ErrWord, 20}, {s + "@a;", api.ErrWord, 18},
		{s + "(;", api.ErrWord, 19}, {s + "(", api.ErrWord, 19}, {s + "(a", api.ErrWord, 20}, {s + "(a|);", api.ErrWord, 21}, {s + "(*);", api.ErrWord, 19}, {s + "a);", api.ErrWord, 19}, {s + ")", api.ErrWord, 18}, {s + "())", api.ErrWord, 20}, {s + "(a))", api.ErrWord, 21}, {s + "a", api.ErrWord, 19}, {s + "f", api.ErrWord, 19}, {s + "f:", api.ErrWord, 20}, {s + "a@", api.ErrWord, 20},
		// of the words first, wherever they are; of the regexes in their places
		{"x &", api.ErrByte, 2}, {l + "foo 65536", api.ErrNumber, 15}, {l + "foo \"", api.ErrString, 15}, {"a " + strings.Repeat("n", 25), api.ErrName, 2}, {l + "skip /a(/; /", api.ErrString, 22},
		{l + "skip /[b-a]/;", api.ErrClass, 18}, {l + "skip //;", api.ErrRegex, 17}, {l + "skip /" + strings.Repeat("a", 65) + "/;", api.ErrLarge, 17}, {l + "skip /" + strings.Repeat("(", 129) + "/;", api.ErrLarge, 145}, {l + "token A /\xff/", api.ErrRegex, 20}, {l + "skip /a(/ foo", api.ErrRegex, 19}, {l + "foo /a(/;", api.ErrWord, 11}, {l + "token /a(/;", api.ErrWord, 17}, {l + "skip /a/; skip /*/;", api.ErrRegex, 27}, {l + "skip empty /*/;", api.ErrWord, 22}, {s + "(/*/;", api.ErrWord, 19},
	} {
		if got := sameParse(t, c.text); !alike(got, answer{code: c.code, place: c.at}) {
			t.Errorf("9.1: Parse(%q) = %+v, want the error %d at %d", c.text, got, c.code, c.at)
		}
	}
}

// 9.1: the text that is too long is refused as words.Cut does it; one of MaxDefn bytes is read.
func TestParseLong(t *testing.T) {
	text := "language l;" + strings.Repeat("fold a;", 2339)
	text += strings.Repeat(" ", api.MaxDefn-len(text))
	if got := parse(text); got.code != api.OK || len(got.defn.Folds) != 2339 {
		t.Errorf("9.1: a text of MaxDefn bytes: %d at %d", got.code, got.place)
	}
	for _, long := range []string{text + " ", text + "&", "&" + text} {
		if got := parse(long); !alike(got, answer{code: api.ErrLong, place: api.MaxDefn}) {
			t.Errorf("9.1: a text of %d bytes: %d at %d", len(long), got.code, got.place)
		}
	}
}

// 9.1: MaxNest brackets may be open, one more may not, whatever is in it; brackets side by side do not count.
func TestParseDeep(t *testing.T) {
	const head = "language l;rule s="
	open, shut := strings.Repeat("(", 32), strings.Repeat(")", 32)
	for _, c := range []struct {
		text string
		code api.Errno
		at   int
	}{
		{open + "a" + shut + ";", api.OK, 0}, {open + "(a)" + shut + ";", api.ErrDeep, 50}, {open + "()" + shut + ";", api.ErrDeep, 50}, {open[1:] + "()" + shut[1:] + ";", api.OK, 0}, {open + "(", api.ErrDeep, 50}, {open + "(;", api.ErrDeep, 50}, {open + "(&", api.ErrByte, 51}, {open + "a (", api.ErrDeep, 52}, {open + "f:(", api.ErrDeep, 52}, {open + "a|(", api.ErrDeep, 52}, {open + "a@(", api.ErrWord, 52}, {open + "a:*", api.ErrWord, 52}, {open + "*(", api.ErrWord, 50},
		{open + "a" + shut + open + "a" + shut + ";", api.OK, 0}, {open + "a) (b" + shut + ";", api.OK, 0}, {open + "a) ((b" + shut + ";", api.ErrDeep, 54}, {open[1:] + "() () ()" + shut[1:] + ";", api.OK, 0}, {open + "a" + shut + ";rule s=" + open + "a" + shut + ";", api.OK, 0}, {open + "a" + shut + ";rule s=" + open + "(", api.ErrDeep, 123},
		{strings.Repeat("(", 16000), api.ErrDeep, 50}, {strings.Repeat("f:(", 5000), api.ErrDeep, 18 + 3*32 + 2}, {strings.Repeat("a ", 8000) + ";", api.OK, 0}, {"a" + strings.Repeat("*", 16000) + ";", api.OK, 0}, {strings.Repeat("() ", 5000) + ";", api.OK, 0}, {strings.Repeat("a|", 8000) + "a;", api.OK, 0},
	} {
		got := parse(head + c.text)
		if got.code != c.code || got.place != c.at || c.code != api.OK && !alike(got.defn, api.Defn{}) {
			t.Errorf("9.1: Parse of %.60q: %d at %d, want %d at %d", c.text, got.code, got.place, c.code, c.at)
		}
	}
}

// wordsOf: the words of a text that has no error.
func wordsOf(text string) []api.Word {
	l, _, _ := words.Cut(text)
	return l
}

// every: all rows of at most n of the words behind those that are there, as long as a definition goes on with them; each is held against the grammar, the words with which it does not go on, too.
func every(t *testing.T, c *chart, text string, n int, next []api.Word) int {
	t.Helper()
	whole := c.whole()
	got := parse(text)
	if whole && !alike(got, plainDefinition(wordsOf(text))) || !whole && !alike(got, answer{code: api.ErrWord, place: len(text)}) {
		t.Fatalf("9.1: Parse(%q) = %+v", text, got)
	}
	seen := 1
	if n == 0 {
		return seen
	}
	for _, w := range next {
		longer := text + " " + words.Spell(w)
		if c.push(w) {
			seen += every(t, c, longer, n-1, next)
		} else if got := parse(longer); !alike(got, answer{code: api.ErrWord, place: len(text) + 1}) {
			t.Fatalf("9.1: Parse(%q) = %+v, want ErrWord at %d", longer, got, len(text)+1)
		}
		c.pop()
	}
	return seen
}

// 9.1: all short texts of the words of lines, of clauses and of expressions.
func TestParseAllShort(t *testing.T) {
	for _, c := range []struct {
		head, next string
		n, least   int
	}{
		{"", `language mode flag fold mark open a "x" ; 1 =`, 7, 1000},
		{"language l ;", `skip paint fold inject rule = a "x" empty ; , (`, 7, 5000},
		{"language l ; token t", `"x" body /x/ in when do a , ; flag ended leave enter enqueue 1`, 6, 2000},
		{"language l ; skip delim", `in when do a , ; noflag deeper indented`, 7, 2000},
		{"language l ; skip /x/ do", `enter a 1 , enqueue set leave measure ;`, 7, 2000},
		{"language l ; rule s =", `a "x" ( ) | * : @ ;`, 6, 5000},
		{"language l ; rule s = (", `a ( ) | + ? : ;`, 6, 2000},
	} {
		chart := newChart()
		for _, w := range wordsOf(c.head) {
			chart.push(w)
		}
		if seen := every(t, chart, c.head, c.n, wordsOf(c.next)); seen < c.least {
			t.Errorf("9.1: %d texts behind %q", seen, c.head)
		}
	}
}

// 9.1: random definitions, whole and spoilt; a definition that is laid out somehow is read as what it was made of.
func TestParseRandom(t *testing.T) {
	r := rand.New(rand.NewSource(91))
	seen := map[string]int{}
	kinds := map[api.Errno]string{api.OK: "fine", api.ErrWord: "word", api.ErrRegex: "regex", api.ErrClass: "regex", api.ErrLarge: "regex", api.ErrDeep: "deep"}
	for i := range 3000 {
		d := randomDefn(r, 2)
		l := shuffled(r, d)
		text, _ := laid(r, l)
		if got := sameParse(t, text); got.code != api.OK || !alike(got.defn, d) {
			t.Fatalf("9.1: Parse(%q) = %+v, want %+v", text, got, d)
		}
		for range i % 4 {
			l = spoilt(r, append(l, randomWord(r)))
		}
		text, _ = laid(r, l)
		seen[kinds[sameParse(t, text).code]]++
	}
	enough(t, seen, 50, "fine", "word", "regex", "deep")
}

// 9.1: any bytes, and any words.
func TestParseAnything(t *testing.T) {
	r := rand.New(rand.NewSource(92))
	for range 20000 {
		bytes := make([]byte, r.Intn(30))
		r.Read(bytes)
		sameParse(t, string(bytes))
		var l []api.Word
		for range r.Intn(9) {
			l = append(l, randomWord(r))
		}
		text, _ := laid(r, l)
		sameParse(t, text)
		sameParse(t, "language l;rule s="+text)
	}
}

// 9.1: a text of MaxDefn bytes is read in one go.
func BenchmarkParse(b *testing.B) {
	text := "language l;" + strings.Repeat("token A /[a-z]+/ in m, n when flag f do enter m 1;\nrule s = f: (a | b c)* \"x\" @ y;\n", 190)
	b.SetBytes(int64(len(text)))
	for b.Loop() {
		defn.Parse(text)
	}
}
