package incr_test

import (
	"math"
	"strings"
	"testing"

	"trellis/api"
	"trellis/incr"
	"trellis/parse"
	"trellis/tree"
)

// sums: the definition of doc/16-parse.md.
const sums = `language l; skip / +/; token n /[0-9]+/; rule s = t ("+" t)*; rule t = n | "(" s ")";`

// layout: blocks by indentation.
const layout = `language layout; skip /[ \t]+/; token NEWLINE /\n([ \t]*\n)*[ \t]*/ do measure; token INDENT empty when deeper do indent; token DEDENT empty when shallower do dedent; token DEDENT empty when ended, indented do drop; token NAME /[a-z]+/; rule file = line*; rule line = NAME NEWLINE | "if" NAME ":" NEWLINE INDENT line+ DEDENT;`

// heres: texts that come later.
const heres = `language heres; skip / +/; token HERE /<<[A-Z]+/ do enqueue 2; token NL /\n/; token BODY body when queued do dequeue; token w /[a-z]+/; rule s = line*; rule line = (w | HERE)* NL (BODY NL)*;`

// row: an edit of a text, and what it comes to.
type row struct {
	text          string
	e             api.Edit
	behind        string
	code          api.Errno
	scanned, kept int
}

func checkRows(t *testing.T, l api.Lang, rows []row) {
	t.Helper()
	for _, c := range rows {
		text, r, stats := checkBack(t, l, c.text, parse.Parse(l, c.text), c.e)
		if text != c.behind || r.Code != c.code || stats != (api.Stats{Scanned: c.scanned, Kept: c.kept}) {
			t.Errorf("18.1, 18.3: %s: %q, %+v: %q, %d, %+v, want %+v", l.Name, c.text, c.e, text, r.Code, stats, c)
		}
	}
}

// The chapter's table, and more edits of such texts; wrong numbers are clamped.
func TestExamples(t *testing.T) {
	checkRows(t, loaded(t, sums), []row{
		{"1+23", api.Edit{At: 1, Ins: "0"}, "10+23", api.OK, 1, 3},
		{"1+23", api.Edit{At: 4, Ins: " "}, "1+23 ", api.OK, 2, 2},
		{"1+23", api.Edit{Del: 9}, "", api.ErrSyntax, 1, 0},
		{"1+", api.Edit{At: 2, Ins: "5"}, "1+5", api.OK, 2, 2},

		{"1+23", api.Edit{At: math.MinInt, Del: math.MaxInt}, "", api.ErrSyntax, 1, 0},
		{"1+23", api.Edit{At: math.MaxInt, Del: math.MaxInt, Ins: "4"}, "1+234", api.OK, 1, 3},
		{"1+23", api.Edit{At: 1, Del: math.MinInt, Ins: "0"}, "10+23", api.OK, 1, 3},
		{"1+23", api.Edit{At: 3, Del: math.MaxInt}, "1+2", api.OK, 1, 3},
		{"1+23", api.Edit{At: -1, Del: 1, Ins: "7"}, "7+23", api.OK, 1, 3},

		{"1+23", api.Edit{}, "1+23", api.OK, 0, 4}, // nothing is done: what the place lies in is scanned all the same
		{"1+23", api.Edit{At: 1}, "1+23", api.OK, 1, 3},
		{"1+23", api.Edit{At: 2}, "1+23", api.OK, 0, 4},
		{"1+23", api.Edit{At: 3}, "1+23", api.OK, 1, 3},
		{"1+23", api.Edit{At: 9}, "1+23", api.OK, 1, 3},
		{"1+23", api.Edit{At: 2, Del: 2, Ins: "23"}, "1+23", api.OK, 1, 3}, // what is deleted comes again
		{"1+23", api.Edit{Del: 4, Ins: "1+23"}, "1+23", api.OK, 3, 1},

		{"1+23", api.Edit{At: 2, Ins: "?"}, "1+?23", api.ErrSyntax, 1, 2},
		{"1+?23", api.Edit{At: 2, Del: 1}, "1+23", api.OK, 2, 2}, // what was behind the refusal has never been a leaf
		{"1+?", api.Edit{At: 3, Ins: "4"}, "1+?4", api.ErrSyntax, 1, 2},
		{"?", api.Edit{At: 1, Ins: "1"}, "?1", api.ErrSyntax, 1, 0},
		{"", api.Edit{}, "", api.ErrSyntax, 1, 0},
		{"", api.Edit{Ins: "1"}, "1", api.OK, 2, 0},
		{"1+2+3", api.Edit{At: 1, Del: 2}, "1+3", api.OK, 1, 3}, // the first one had looked at what goes
		{"1+2+3", api.Edit{At: 2, Ins: "("}, "1+(2+3", api.ErrSyntax, 3, 4},
		{"1+(2+3)", api.Edit{At: 2, Del: 1}, "1+2+3)", api.ErrSyntax, 2, 4}, // the valid set is another one behind the second number
		{"1 + 2", api.Edit{At: 1, Ins: "  "}, "1   + 2", api.OK, 2, 2},
	})
}

// Indentation and bodies: a leaf is kept just if the state ahead of it is the same, however far the edit is.
func TestStates(t *testing.T) {
	checkRows(t, loaded(t, layout), []row{
		{"if a:\n  b\nc\n", api.Edit{At: 10, Ins: "\n"}, "if a:\n  b\n\nc\n", api.OK, 1, 10},
		{"if a:\n  b\nc\n", api.Edit{At: 6, Ins: " "}, "if a:\n   b\nc\n", api.OK, 5, 6},            // the line end; and four steps in a deeper state
		{"if a:\n  b\n  c\nd\n", api.Edit{At: 10, Del: 2}, "if a:\n  b\nc\nd\n", api.OK, 4, 9},      // the state is another one up to the last line
		{"if a:\n  b\n", api.Edit{At: 10, Ins: "  c\n"}, "if a:\n  b\n  c\n", api.OK, 3, 8},         // the dedent and the end are the old ones
		{"if a:\n  b\n", api.Edit{At: 9, Del: 1}, "if a:\n  b", api.ErrSyntax, 2, 5},                // the name has looked at what goes
		{"a\nif b:\n\tc\n", api.Edit{At: 8, Del: 1, Ins: " \t"}, "a\nif b:\n \tc\n", api.OK, 1, 10}, // another text, as wide
	})
	checkRows(t, loaded(t, heres), []row{
		{"<<A b\nx\nA\nc\n", api.Edit{At: 6, Del: 1, Ins: "yy"}, "<<A b\nyy\nA\nc\n", api.OK, 1, 7},
		{"<<A b\nx\nA\nc\n", api.Edit{At: 2, Del: 1, Ins: "B"}, "<<B b\nx\nA\nc\n", api.ErrSyntax, 6, 0}, // another text is waited for all along
		{"<<A b\nx\nA\nc\n", api.Edit{At: 10, Ins: "d"}, "<<A b\nx\nA\ndc\n", api.OK, 1, 7},
		{"<<A b\nx\nA\nc\n", api.Edit{At: 9, Ins: "A"}, "<<A b\nx\nAA\nc\n", api.ErrSyntax, 3, 3},
	})
}

// 18.1: what is too long, ahead of the edit or behind it; an edit that makes it no longer goes well.
func TestBig(t *testing.T) {
	const most = 1 << 20
	l := loaded(t, "language l; token n /[0-9]+/; token m /m/; rule s = (m | n)*;")
	text := strings.Repeat("1", most)
	old := parse.Parse(l, text)
	if old.Code != api.OK || len(old.Leaves) != 2 {
		t.Fatalf("%d, %d leaves", old.Code, len(old.Leaves))
	}
	for _, c := range []struct {
		text  string
		e     api.Edit
		code  api.Errno
		stats api.Stats
	}{
		{text, api.Edit{Ins: "1"}, api.ErrBig, api.Stats{}},
		{text, api.Edit{At: math.MaxInt, Del: math.MaxInt, Ins: "1"}, api.ErrBig, api.Stats{}},
		{text, api.Edit{At: 7, Del: 1, Ins: "22"}, api.ErrBig, api.Stats{}},
		{text, api.Edit{Del: most, Ins: text + "1"}, api.ErrBig, api.Stats{}},
		{"", api.Edit{Ins: text + "1"}, api.ErrBig, api.Stats{}},
		{text + "1", api.Edit{}, api.ErrBig, api.Stats{}},
		{text + "1", api.Edit{Del: math.MaxInt}, api.ErrBig, api.Stats{}},
		{text, api.Edit{}, api.OK, api.Stats{Kept: 2}},
		{text, api.Edit{At: most}, api.OK, api.Stats{Scanned: 1, Kept: 1}},
		{text, api.Edit{At: 7, Del: 1, Ins: "2"}, api.OK, api.Stats{Scanned: 1, Kept: 1}},
		{text, api.Edit{Del: 1, Ins: "m"}, api.OK, api.Stats{Scanned: 2, Kept: 1}},
		{text, api.Edit{Del: most, Ins: text}, api.OK, api.Stats{Scanned: 1, Kept: 1}},
		{text, api.Edit{Del: math.MaxInt}, api.OK, api.Stats{Kept: 1}},
	} {
		got, r, stats, code := incr.Reparse(l, c.text, old, c.e)
		if code != c.code || stats != c.stats || code == api.ErrBig && (got != "" || !same(r, api.Result{})) {
			t.Errorf("18.1: %d bytes, at %d, del %d, ins %d bytes: %d bytes, %d, %+v", len(c.text), c.e.At, c.e.Del, len(c.e.Ins), len(got), code, stats)
		}
		if code == api.OK && !same(r, parse.Parse(l, got)) {
			t.Errorf("18.2: at %d, del %d, ins %d bytes: %d at %d", c.e.At, c.e.Del, len(c.e.Ins), r.Code, r.At)
		}
	}
}

// 18.3: runs that end with too many tokens, or too many without a byte: the token that an old leaf answers is neither scanned nor kept.
func TestRefusedBehindFound(t *testing.T) {
	l := loaded(t, "language l; token a /a/; rule s = a*;")
	many := strings.Repeat("a", api.MaxLeaves)
	checkRows(t, l, []row{
		{many, api.Edit{Ins: "a"}, many + "a", api.ErrLeaves, 1, api.MaxLeaves - 1},
		{many, api.Edit{At: 1000, Ins: "aa"}, many + "aa", api.ErrLeaves, 2, api.MaxLeaves - 2},
		{many, api.Edit{At: api.MaxLeaves, Ins: "a"}, many + "a", api.ErrLeaves, 1, api.MaxLeaves},
		{many + "a", api.Edit{At: 1000, Del: 1}, many, api.OK, 2, api.MaxLeaves - 1},
		{many + "aa", api.Edit{At: 1000, Del: 1}, many + "a", api.ErrLeaves, 2, api.MaxLeaves - 1},
		{many + "a", api.Edit{At: 7, Del: 1, Ins: "?"}, many[:7] + "?" + many[8:] + "a", api.ErrSyntax, 1, 7},
	})
	l = loaded(t, "language l; token _a /a/; token _e empty; rule s = (_a | _e)*;")
	checkRows(t, l, []row{
		{"", api.Edit{}, "", api.ErrLoop, 0, 64},
		{"", api.Edit{Ins: "a"}, "a", api.ErrLoop, 1, 64},
		{"a", api.Edit{Ins: "a"}, "aa", api.ErrLoop, 1, 65},
		{"a", api.Edit{At: 1, Ins: "a"}, "aa", api.ErrLoop, 1, 65},
		{"aa", api.Edit{Del: 1}, "a", api.ErrLoop, 0, 65},
		{"aa", api.Edit{At: 1, Del: 1, Ins: "b"}, "ab", api.ErrLoop, 65, 1}, // no step was made at the b
		{"a", api.Edit{Del: 9}, "", api.ErrLoop, 0, 64},
	})
}

// P8, P12: what an edit has made can be read off the tree; and back.
func TestTree(t *testing.T) {
	l := loaded(t, layout)
	text := "if a:\n  b\n"
	r := parse.Parse(l, text)
	for _, c := range []struct {
		e    api.Edit
		tree string
	}{
		{api.Edit{At: 9, Ins: "\n  c"}, `(file (line "if" (NAME) ":" (NEWLINE) (INDENT) (line (NAME) (NEWLINE)) (line (NAME) (NEWLINE)) (DEDENT)))`},
		{api.Edit{At: 10, Del: 2}, `(file (line "if" (NAME) ":" (NEWLINE) (INDENT) (line (NAME) (NEWLINE)) (DEDENT)) (line (NAME) (NEWLINE)))`},
		{api.Edit{At: 0, Del: 8}, `(file (line (NAME) (NEWLINE)) (line (NAME) (NEWLINE)))`},
		{api.Edit{At: 0, Del: 9}, `(file)`},
	} {
		text, r, _ = checkBack(t, l, text, r, c.e)
		if got := tree.Text(r.Nodes); r.Code != api.OK || got != c.tree {
			t.Errorf("P8: %q: %s, want %s", text, got, c.tree)
		}
	}
}
