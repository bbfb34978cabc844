package ranges_test

import (
	"fmt"
	"math"
	"strings"
	"testing"

	"trellis/api"
	"trellis/parse"
	"trellis/ranges"
)

// sums: the definition of doc/16-parse.md.
const sums = `language l; skip / +/; token n /[0-9]+/; rule s = t ("+" t)*; rule t = n | "(" s ")";`

// layout: blocks by indentation.
const layout = `language layout; skip /[ \t]+/; token NEWLINE /\n([ \t]*\n)*[ \t]*/ do measure; token INDENT empty when deeper do indent; token DEDENT empty when shallower do dedent; token DEDENT empty when ended, indented do drop; token NAME /[a-z]+/; rule file = line*; rule line = NAME NEWLINE | "if" NAME ":" NEWLINE INDENT line+ DEDENT;`

// heres: texts that come later.
const heres = `language heres; skip / +/; token HERE /<<[A-Z]+/ do enqueue 2; token NL /\n/; token BODY body when queued do dequeue; token w /[a-z]+/; rule s = line*; rule line = (w | HERE)* NL (BODY NL)*;`

// ends: what comes last says what all the others are called.
const ends = `language ends; skip / +/; token a /a/; token _h /h/; rule s = one "1" | two "2" | _h @ h "3" | _h "4"; rule one = a @ x _many; rule two = a @ y _many; rule _many = (b _many)?; rule b = "b";`

// words: a word is called so, whichever token it is.
const words = `language words; skip / +/; skip /%[^%]*%/; token w /[a-z]+/; rule s = (w @ x | "if" @ x | part: "#" | "#5" | _q)*; rule _q = "[" (_q | e) "]"; rule e = ();`

// 19.1: the chapter's table, and chains of other trees.
func TestChain(t *testing.T) {
	for _, c := range []struct {
		defn, text string
		want       map[int]string
	}{
		{sums, "1+2", map[int]string{0: "s t n #4", 1: "s + #1", 2: "s t n #4", 3: "#", 9: "#", -1: "#", math.MaxInt: "#", math.MinInt: "#"}},
		{sums, " (12 ) ", map[int]string{0: "#", 1: "s t ( #2", 2: "s t s t n #4", 3: "s t s t n #4", 4: "s t #", 5: "s t ) #3", 6: "#"}},
		{sums, "1+", map[int]string{0: "t n #4", 1: "+ #1", 2: "#"}},
		{sums, "1 2", map[int]string{0: "n #4", 1: "#", 2: "#"}}, // what is behind the refusal is in no token
		{sums, "?1", map[int]string{0: "#", 1: "#"}},
		{sums, "", map[int]string{0: "#", -1: "#"}},
		{layout, "if a:\n b\n", map[int]string{0: "file line if #1", 2: "file line #", 3: "file line NAME #6", 5: "file line NEWLINE #3", 6: "file line NEWLINE #3", 7: "file line line NAME #6", 8: "file line line NEWLINE #3"}},
		{heres, "<<A b\nx\nA\n", map[int]string{0: "s line HERE #1", 3: "s line #", 5: "s line NL #2", 6: "s line BODY #3", 8: "s line BODY #3", 9: "s line NL #2"}},
		{ends, "ab2", map[int]string{0: "s two y #6", 1: "s two b b #5", 2: "s 2 #2"}}, // called otherwise: by that name
		{ends, "h3", map[int]string{0: "s h #7", 1: "s 3 #3"}},
		{ends, "h4", map[int]string{0: "#7", 1: "s 4 #4"}}, // a hidden token: its rule begins with what it shows
		{words, "if #5#[]", map[int]string{0: "s x #1", 2: "s #", 3: "s #5 #3", 5: "s # #2", 6: "s [ #4", 7: "s ] #5"}},
		{words, "a %if% b", map[int]string{0: "s x #6", 2: "s #", 3: "s #", 7: "s x #6"}},
	} {
		l := loaded(t, c.defn)
		r := parse.Parse(l, c.text)
		checkChains(t, l, c.text, r)
		for at, want := range c.want {
			if got := told(ranges.Chain(r, at)); got != want {
				t.Errorf("19.1: %s: %q at %d: %s, want %s", l.Name, c.text, at, got, want)
			}
		}
	}
	for _, at := range []int{0, 1, -1, math.MaxInt, math.MinInt} {
		if got := ranges.Chain(api.Result{}, at); len(got) != 1 || got[0] != "#" {
			t.Errorf("19.1: of no parse at %d: %q", at, got)
		}
	}
}

// row: an edit of a text, and what it has changed.
type row struct {
	text string
	e    api.Edit
	want string
}

func checkRows(t *testing.T, defn string, rows []row) {
	t.Helper()
	l := loaded(t, defn)
	for _, c := range rows {
		if _, got := check(t, l, c.text, c.e); fmt.Sprint(got) != c.want {
			t.Errorf("19.2: %s: %q, %+v: %v, want %s", l.Name, c.text, c.e, got, c.want)
		}
	}
}

// 19.2: the chapter's table, and more edits of such texts; wrong numbers are clamped.
func TestExamples(t *testing.T) {
	checkRows(t, sums, []row{
		{"1+2", api.Edit{At: 2, Del: 1, Ins: "45"}, "[{2 4}]"},
		{"1+2", api.Edit{At: 1, Del: 1, Ins: "+"}, "[{1 2}]"},
		{"1+2", api.Edit{At: 3, Ins: "+3"}, "[{3 5}]"},
		{"1+2", api.Edit{Ins: "("}, "[{0 4}]"},
		{"1+2", api.Edit{At: 3, Ins: " "}, "[{3 4}]"},

		{"1+2", api.Edit{}, "[]"},
		{"1+2", api.Edit{At: math.MinInt, Del: math.MinInt}, "[]"},
		{"1+2", api.Edit{At: math.MaxInt, Del: math.MaxInt, Ins: "3"}, "[{3 4}]"},
		{"1+2", api.Edit{At: math.MinInt, Del: math.MaxInt}, "[]"},
		{"1+2", api.Edit{At: -5, Del: 1, Ins: "3"}, "[{0 1}]"},
		{"1+2", api.Edit{At: 2, Del: math.MaxInt, Ins: "34"}, "[{2 4}]"},
		{"1+2", api.Edit{At: 1, Del: math.MinInt, Ins: "0"}, "[{1 2}]"},

		{"", api.Edit{}, "[]"},
		{"", api.Edit{Ins: "1"}, "[{0 1}]"},
		{"", api.Edit{Ins: "??"}, "[{0 2}]"},
		{"1", api.Edit{Del: 1}, "[]"},
		{"1+2", api.Edit{At: 1, Del: 1}, "[]"},                // the two are one token of the same name
		{"12", api.Edit{At: 1, Ins: "+"}, "[{1 2}]"},          // and back
		{"1 2", api.Edit{At: 1, Del: 1, Ins: "+"}, "[{0 3}]"}, // refused ahead of it
		{"1+2", api.Edit{At: 1, Del: 1, Ins: " "}, "[{0 3}]"},
		{"1+2+3", api.Edit{At: 1, Del: 2}, "[]"},
		{"1+(2+3)", api.Edit{At: 3, Del: 2}, "[]"},
		{"1+(2)+3", api.Edit{At: 4, Del: 1}, "[{0 6}]"},
		{"(1)+2", api.Edit{At: 0, Del: 5, Ins: "(1)+2"}, "[{0 5}]"}, // new, though it is what was there
		{"?1+2", api.Edit{At: 4, Ins: "+"}, "[{4 5}]"},              // nothing is known of the others, then as now
		{"1+2?", api.Edit{At: 3, Del: 1}, "[{0 3}]"},
	})
}

// 19.3: other names and the same token, another token and the same names; and ranges apart from one another.
func TestApartOrTogether(t *testing.T) {
	checkRows(t, ends, []row{
		{"abb1", api.Edit{At: 3, Del: 1, Ins: "2"}, "[{0 4}]"},
		{"a bb1", api.Edit{At: 3, Ins: " "}, "[{3 4}]"},
		{"h3", api.Edit{At: 1, Del: 1, Ins: "4"}, "[{0 2}]"}, // the same token, hidden and not
		{"h 3", api.Edit{At: 2, Del: 1, Ins: "4"}, "[{0 3}]"},
	})
	checkRows(t, `language l; token a /a/; token n /n/; rule s = a @ x _m "1" | a @ y _m "2"; rule _m = (n _m)?;`, []row{
		{"annn1", api.Edit{At: 4, Del: 1, Ins: "2"}, "[{0 1} {4 5}]"},
		{"a1", api.Edit{At: 1, Del: 1, Ins: "2"}, "[{0 2}]"}, // side by side: one
		{"annn1", api.Edit{At: 1, Ins: "n"}, "[{1 2}]"},
	})
	checkRows(t, `language l; token a /a/; token n /n/; rule s = _x "1" | _y "2"; rule _x = a @ x _m _x | a @ x _m; rule _y = a @ y _m _y | a @ y _m; rule _m = (n _m)?;`, []row{
		{"aanana1", api.Edit{At: 6, Del: 1, Ins: "1"}, "[{6 7}]"},
	})
	checkRows(t, words, []row{
		{"i a", api.Edit{At: 1, Ins: "f"}, "[{0 2}]"}, // another token, called the same
		{"if", api.Edit{At: 1, Del: 1}, "[{0 1}]"},
		{"if", api.Edit{At: 2, Ins: "f"}, "[{0 3}]"},
		{"ab", api.Edit{At: 1, Ins: "c"}, "[{1 2}]"},
		{"a bc d", api.Edit{At: 1, Ins: "%%"}, "[{1 3}]"},
		{"a bc d", api.Edit{At: 1, Ins: "%"}, "[{0 7}]"},
		{"a bc% d", api.Edit{At: 1, Ins: "%"}, "[{0 8}]"}, // refused no more
		{"a[[]]", api.Edit{At: 2, Del: 2}, "[]"},
		{"#5", api.Edit{At: 1, Del: 1}, "[{0 1}]"},
		{"a #", api.Edit{At: 3, Ins: "5"}, "[{2 4}]"},
	})
	checkRows(t, layout, []row{
		{"if a:\n  b\nc\n", api.Edit{At: 6, Ins: " "}, "[{6 7}]"},
		{"if a:\n  b\n  c\nd\n", api.Edit{At: 10, Del: 2}, "[{10 12}]"}, // the line is no part of the block any more
		{"if a:\n  b\nc\nd\n", api.Edit{At: 10, Ins: "  "}, "[{10 14}]"},
		{"a\nb\n", api.Edit{At: 0, Ins: "\t"}, "[{0 1}]"},
	})
	checkRows(t, heres, []row{
		{"<<A b\nx\nA\nc\n", api.Edit{At: 6, Del: 1, Ins: "yy"}, "[{6 8}]"},
		{"<<A b\nx\nA\nx\nA\n", api.Edit{At: 0, Del: 4}, "[{2 8}]"}, // both are refused: of what is behind both places nothing is known
	})
}

// 19.2: lengths that no text has.
func TestLengths(t *testing.T) {
	l := loaded(t, sums)
	r := parse.Parse(l, "1+2")
	for _, n := range []int{-1, math.MinInt, api.MaxText + 1, math.MaxInt} {
		for _, e := range []api.Edit{{}, {Ins: "2"}, {At: math.MaxInt, Del: math.MaxInt, Ins: "2"}} {
			soon(t, "no text's length", func() {
				if got := ranges.Changed(n, r, e, r); len(got) != 0 {
					t.Errorf("19.2: %d bytes, %+v: %v", n, e, got)
				}
			})
		}
	}
	if got := ranges.Changed(api.MaxText, api.Result{}, api.Edit{At: 5, Del: 1, Ins: "xy"}, api.Result{}); fmt.Sprint(got) != "[{5 7}]" {
		t.Errorf("19.2: the longest text: %v", got)
	}
	if got := ranges.Changed(0, api.Result{}, api.Edit{}, api.Result{}); len(got) != 0 {
		t.Errorf("19.2: no text: %v", got)
	}
}

// 19.2: the text behind may have more bytes than a text: then nothing is known of any.
func TestTooLong(t *testing.T) {
	l := loaded(t, sums)
	more := strings.Repeat("1", api.MaxText)
	old, now := parse.Parse(l, " 1"), parse.Parse(l, " "+more+"1")
	if now.Code != api.ErrBig {
		t.Fatalf("%d", now.Code)
	}
	if got := ranges.Changed(2, old, api.Edit{At: 1, Ins: more}, now); fmt.Sprint(got) != fmt.Sprint([]api.Range{{From: 1, To: api.MaxText + 2}}) {
		t.Errorf("19.2: %v", got)
	}
	if got := ranges.Changed(2, old, api.Edit{At: 0, Del: 1, Ins: more}, now); fmt.Sprint(got) != fmt.Sprint([]api.Range{{From: 0, To: api.MaxText + 1}}) {
		t.Errorf("19.2: %v", got)
	}
}
