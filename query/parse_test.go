package query_test

import (
	"math/rand"
	"strings"
	"testing"

	"trellis/api"
	"trellis/words"
)

// sameParse: what Parse answers, held against the model.
func sameParse(t *testing.T, text string) answer {
	t.Helper()
	got, want := read(text), plainParse(text)
	if !same(got, want) {
		t.Fatalf("20.1: Parse(%q) = %+v, want %+v", text, got, want)
	}
	return got
}

// 20.1: queries, and what they say.
func TestParse(t *testing.T) {
	for _, c := range []struct {
		text  string
		nodes []api.PatNode
		conds []api.Cond
	}{
		{`(call name: (ident) @f "(" (_) @x) when @f = "print"`, []api.PatNode{{Name: "call", Kids: 3}, {Name: "ident", Field: "name", Capture: "f"}, {Name: "(", Lit: true}, {Capture: "x"}}, []api.Cond{{A: "f", Text: "print"}}},
		{`"let" @k`, []api.PatNode{{Name: "let", Lit: true, Capture: "k"}}, nil},
		{`(_)`, []api.PatNode{{}}, nil},
		{"# ahead\n ( _ # within\n)# behind", []api.PatNode{{}}, nil},
		{`f:"x"@c`, []api.PatNode{{Name: "x", Lit: true, Field: "f", Capture: "c"}}, nil},
		{`"_"`, []api.PatNode{{Name: "_", Lit: true}}, nil},
		{`"\x00\n\"\\\xff"`, []api.PatNode{{Name: "\x00\n\"\\\xff", Lit: true}}, nil},
		{`(a (b (c) "x") (d))`, []api.PatNode{{Name: "a", Kids: 2}, {Name: "b", Kids: 2}, {Name: "c"}, {Name: "x", Lit: true}, {Name: "d"}}, nil},
		{`(a b: (_ c: "x" d: (e)) f: (g))`, []api.PatNode{{Name: "a", Kids: 2}, {Field: "b", Kids: 2}, {Name: "x", Lit: true, Field: "c"}, {Name: "e", Field: "d"}, {Name: "g", Field: "f"}}, nil},
		{`(a (b (c) @x) @y) @z`, []api.PatNode{{Name: "a", Kids: 1, Capture: "z"}, {Name: "b", Kids: 1, Capture: "y"}, {Name: "c", Capture: "x"}}, nil},
		{`when: (unless unless: (when) @when) @unless when @when = @unless unless @unless = "when"`, []api.PatNode{{Name: "unless", Field: "when", Kids: 1, Capture: "unless"}, {Name: "when", Field: "unless", Capture: "when"}}, []api.Cond{{A: "when", B: "unless"}, {Not: true, A: "unless", Text: "when"}}},
		{`(a) @x when @x = @x unless @x = "" when @x = "\n"`, []api.PatNode{{Name: "a", Capture: "x"}}, []api.Cond{{A: "x", B: "x"}, {Not: true, A: "x"}, {A: "x", Text: "\n"}}},
		{`(__ _a: (_9) @a_)`, []api.PatNode{{Name: "__", Kids: 1}, {Name: "_9", Field: "_a", Capture: "a_"}}, nil},
		{`(a "x" @x "x" "x" @y)`, []api.PatNode{{Name: "a", Kids: 3}, {Name: "x", Lit: true, Capture: "x"}, {Name: "x", Lit: true}, {Name: "x", Lit: true, Capture: "y"}}, nil},
	} {
		if got, want := sameParse(t, c.text), (answer{query: api.Query{Nodes: c.nodes, Conds: c.conds}}); !same(got, want) {
			t.Errorf("20.1: Parse(%q) = %+v, want %+v", c.text, got, want)
		}
	}
}

// 20.1: the errors, where they are, and the first of several.
func TestParseErrors(t *testing.T) {
	for _, c := range []struct {
		text string
		code api.Errno
		at   int
	}{
		// the chapter's
		{"", api.ErrQuery, 0}, {"(a", api.ErrQuery, 2}, {"(a) (b)", api.ErrQuery, 4}, {"a", api.ErrQuery, 0}, {`(a "")`, api.ErrQuery, 3}, {"_: (a)", api.ErrQuery, 0}, {"(a @x (b) @x)", api.ErrQuery, 3}, {"(a (b) @x (c) @x)", api.ErrCapture, 15}, {`(a) @x when @y = "1"`, api.ErrCapture, 13}, {`(a) @x when @_ = "1"`, api.ErrQuery, 13},
		// the words' end
		{" # nothing\n ", api.ErrQuery, 12}, {"(", api.ErrQuery, 1}, {"(a  ", api.ErrQuery, 4}, {"f:", api.ErrQuery, 2}, {"f: #", api.ErrQuery, 4}, {"(a) @", api.ErrQuery, 5}, {"(a f:", api.ErrQuery, 5}, {"(a (b)", api.ErrQuery, 6}, {"(a) @x when", api.ErrQuery, 11}, {"(a) @x when @", api.ErrQuery, 13}, {"(a) @x unless @x", api.ErrQuery, 16}, {"(a) @x when @x =", api.ErrQuery, 16}, {"(a) @x when @x = @", api.ErrQuery, 18}, {"(a) when", api.ErrQuery, 8},
		// a name where a pattern begins
		{"a:", api.ErrQuery, 2}, {"a (b)", api.ErrQuery, 0}, {"(a b", api.ErrQuery, 3}, {"(a b)", api.ErrQuery, 3}, {"(a b @c)", api.ErrQuery, 3}, {"(a _)", api.ErrQuery, 3}, {"(a _: (b))", api.ErrQuery, 3}, {"_", api.ErrQuery, 0}, {"f: g: (a)", api.ErrQuery, 3}, {"f: a", api.ErrQuery, 3}, {"f: _", api.ErrQuery, 3}, {"when", api.ErrQuery, 0}, {`when @x = ""`, api.ErrQuery, 0}, {"f::(a)", api.ErrQuery, 2}, {"f=(a)", api.ErrQuery, 0},
		// what is no pattern
		{"()", api.ErrQuery, 1}, {"((a))", api.ErrQuery, 1}, {`("a")`, api.ErrQuery, 1}, {"(1)", api.ErrQuery, 1}, {"(/a/)", api.ErrQuery, 1}, {"(:)", api.ErrQuery, 1}, {`""`, api.ErrQuery, 0}, {`f: ""`, api.ErrQuery, 3}, {`"f": (a)`, api.ErrQuery, 3}, {"1", api.ErrQuery, 0}, {"/a/", api.ErrQuery, 0}, {"@x", api.ErrQuery, 0}, {")", api.ErrQuery, 0}, {": (a)", api.ErrQuery, 0}, {"= (a)", api.ErrQuery, 0}, {"(a : (b))", api.ErrQuery, 3}, {"(a: (b))", api.ErrQuery, 2}, {"(a, (b))", api.ErrQuery, 2}, {"(a 1)", api.ErrQuery, 3}, {"(a /b/)", api.ErrQuery, 3}, {"(a = (b))", api.ErrQuery, 3}, {"(a (b)*)", api.ErrQuery, 6}, {"{a}", api.ErrQuery, 0}, {"(a;)", api.ErrQuery, 2},
		// captures
		{"(a) @_", api.ErrQuery, 5}, {`(a) @"x"`, api.ErrQuery, 5}, {"(a) @1", api.ErrQuery, 5}, {"(a) @@x", api.ErrQuery, 5}, {"(a) @x @y", api.ErrQuery, 7}, {"(a) @x @x", api.ErrQuery, 7}, {"(a (b) @x) @x", api.ErrCapture, 12}, {`("a" @x "b" @x)`, api.ErrQuery, 1}, {`(_ "a" @x "b" @x`, api.ErrCapture, 15}, {"(a (b) @x (c) @x @", api.ErrCapture, 15}, {"f: (a) @f when @f = @g", api.ErrCapture, 21}, {`(a) @x when @a = ""`, api.ErrCapture, 13}, {`(a f: (b)) @x when @f = ""`, api.ErrCapture, 20}, {`(a) when @x = ""`, api.ErrCapture, 10}, {`(a) when @x`, api.ErrCapture, 10}, {"(a) @x when @x = @y &", api.ErrByte, 20},
		// conditions
		{"(a))", api.ErrQuery, 3}, {`(a) "b"`, api.ErrQuery, 4}, {"(a) where", api.ErrQuery, 4}, {`(a) "when"`, api.ErrQuery, 4}, {"(a) f: (b)", api.ErrQuery, 4}, {"(a) when: (b)", api.ErrQuery, 8}, {"(a) 1", api.ErrQuery, 4}, {"(a) @x when x", api.ErrQuery, 12}, {`(a) @x when "x"`, api.ErrQuery, 12}, {`(a) @x when @"x"`, api.ErrQuery, 13}, {`(a) @x when @x "1"`, api.ErrQuery, 15}, {"(a) @x when @x : @x", api.ErrQuery, 15}, {"(a) @x when @x @x", api.ErrQuery, 15}, {"(a) @x when @x = x", api.ErrQuery, 17}, {"(a) @x when @x = 1", api.ErrQuery, 17}, {"(a) @x when @x = /x/", api.ErrQuery, 17}, {"(a) @x when @x = @_", api.ErrQuery, 18}, {`(a) @x when @x = @"x"`, api.ErrQuery, 18}, {`(a) @x when @x = "" ""`, api.ErrQuery, 20}, {`(a) @x when @x = "", when`, api.ErrQuery, 19}, {`(a) @x when @x = "" (b)`, api.ErrQuery, 20}, {`(a) @x when @x = @x @x`, api.ErrQuery, 20}, {`(a) @x when when`, api.ErrQuery, 12}, {`(a) @x unless unless @x = ""`, api.ErrQuery, 14}, {`(a) @x when @x = when @x = ""`, api.ErrQuery, 17},
		// of the words first, wherever they are
		{"a &", api.ErrByte, 2}, {`(a) (b) "`, api.ErrString, 8}, {"() 65536", api.ErrNumber, 3}, {"() " + strings.Repeat("n", 25), api.ErrName, 3}, {`(a) "\q"`, api.ErrString, 5}, {"(a @x /", api.ErrString, 6},
	} {
		if got := sameParse(t, c.text); !same(got, answer{code: c.code, place: c.at}) {
			t.Errorf("20.1: Parse(%q) = %+v, want the error %d at %d", c.text, got, c.code, c.at)
		}
	}
}

// 20.1: how many patterns and conditions there may be, and what is told of one more.
func TestParseLimits(t *testing.T) {
	deep := func(n int) string { return strings.Repeat("(a ", n) }
	shut := func(n int) string { return strings.Repeat(")", n) }
	flat := func(n int) string { return "(a" + strings.Repeat(` "b"`, n) }
	conds := func(n int) string { return "(a)@x" + strings.Repeat(" when@x=@x", n) }
	for _, c := range []struct {
		text string
		code api.Errno
		at   int
	}{
		{deep(32) + shut(32), api.OK, 0}, {deep(33) + shut(33), api.ErrPatterns, 96}, {deep(33), api.ErrPatterns, 96}, {deep(32), api.ErrQuery, 96}, {strings.Repeat("(a ", 5000), api.ErrPatterns, 96}, {strings.Repeat("(a f:", 3000), api.ErrPatterns, 31*5 + 3},
		{flat(31) + ")", api.OK, 0}, {flat(32) + ")", api.ErrPatterns, 2 + 31*4 + 1}, {flat(31) + " (c)", api.ErrPatterns, 2 + 31*4 + 1}, {flat(31), api.ErrQuery, 2 + 31*4}, {flat(31) + ` f: "c")`, api.ErrPatterns, 2 + 31*4 + 1}, {flat(31) + ` f: "")`, api.ErrPatterns, 2 + 31*4 + 1}, {flat(31) + " f:", api.ErrPatterns, 2 + 31*4 + 1}, {flat(30) + ` f: "c")`, api.OK, 0},
		// what cannot stand where one more begins is told as that
		{flat(31) + ` "")`, api.ErrQuery, 2 + 31*4 + 1}, {flat(31) + ` c)`, api.ErrQuery, 2 + 31*4 + 1}, {flat(31) + ` _: (c))`, api.ErrQuery, 2 + 31*4 + 1}, {flat(31) + ` 1)`, api.ErrQuery, 2 + 31*4 + 1}, {flat(31) + ` f`, api.ErrQuery, 2 + 31*4 + 1}, {flat(31) + ` @c)`, api.OK, 0}, {flat(31) + `) "c"`, api.ErrQuery, 2 + 31*4 + 2}, {flat(31) + `) (c)`, api.ErrQuery, 2 + 31*4 + 2},
		{flat(31) + ` @c) @c`, api.ErrCapture, 2 + 31*4 + 6}, {flat(31) + ` &`, api.ErrByte, 2 + 31*4 + 1},
		{conds(16), api.OK, 0}, {conds(17), api.ErrPatterns, 5 + 160 + 1}, {conds(16) + " when", api.ErrPatterns, 5 + 160 + 1}, {conds(16) + " unless @y", api.ErrPatterns, 5 + 160 + 1}, {conds(16) + " @x", api.ErrQuery, 5 + 160 + 1}, {conds(16) + ` "when"`, api.ErrQuery, 5 + 160 + 1}, {conds(15) + ` unless@x=""`, api.OK, 0}, {conds(15) + ` unless@y=""`, api.ErrCapture, 5 + 150 + 8}, {conds(1000), api.ErrPatterns, 5 + 160 + 1},
		{flat(31) + `)@x` + conds(16)[5:], api.OK, 0}, {flat(31) + `)@x` + conds(17)[5:], api.ErrPatterns, 2 + 31*4 + 3 + 160 + 1},
	} {
		got := sameParse(t, c.text)
		if got.code != c.code || got.place != c.at || c.code != api.OK && !sameQuery(got.query, api.Query{}) {
			t.Errorf("20.1: Parse(%q): %d at %d, want %d at %d", c.text, got.code, got.place, c.code, c.at)
		}
	}
	for _, n := range []int{api.MaxDefn, api.MaxDefn + 1} {
		text := `(a) @x when @x = "` + strings.Repeat("b", n-19) + `"`
		want := answer{code: api.ErrLong, place: api.MaxDefn}
		if n <= api.MaxDefn {
			want = answer{query: api.Query{Nodes: []api.PatNode{{Name: "a", Capture: "x"}}, Conds: []api.Cond{{A: "x", Text: strings.Repeat("b", n-19)}}}}
		}
		if got := read(text); len(text) != n || !same(got, want) {
			t.Errorf("20.1: a text of %d bytes: %d at %d", len(text), got.code, got.place)
		}
	}
	long := strings.Repeat("n", 24)
	if got := sameParse(t, long+": ("+long+") @"+long); got.code != api.OK || got.query.Nodes[0] != (api.PatNode{Name: long, Field: long, Capture: long}) {
		t.Errorf("20.1: names of MaxName bytes: %+v", got)
	}
}

// every: all rows of at most n of the words behind a text; a row that goes on behind an error is followed no further than to the word behind that.
func every(t *testing.T, text string, last, n int, next []string) int {
	t.Helper()
	got := sameParse(t, text)
	seen := 1
	if n == 0 || got.code != api.OK && got.place < last {
		return seen
	}
	for _, w := range next {
		seen += every(t, text+" "+w, len(text)+1, n-1, next)
	}
	return seen
}

// 20.1: all short rows of words, from the beginning and behind others.
func TestParseAllShort(t *testing.T) {
	all := []string{"(", ")", ":", "@", "=", "a", "_", "when", "unless", `"x"`, `""`, "7", "/r/", "|"}
	few := []string{"(", ")", ":", "@", "a", "when", `"x"`}
	for _, c := range []struct {
		head     string
		next     []string
		n, least int
	}{
		{"", all, 7, 50000}, {"", few, 9, 30000}, {"( a ) @ a", all, 8, 4000}, {`( a ( a ) @ a`, all, 5, 5000}, {"( a ) @ when when @ when =", all, 5, 1000}, {"( a" + strings.Repeat(" ( a )", 30), few, 6, 2000}, {"( a ) @ a" + strings.Repeat(` unless @ a = "x"`, 15), []string{"when", "@", "a", "=", `"x"`}, 10, 100},
	} {
		if seen := every(t, c.head, 0, c.n, c.next); seen < c.least {
			t.Errorf("20.1: only %d rows behind %q", seen, c.head)
		}
	}
}

// 20.1: queries of all kinds, whole and spoilt, however they are laid out.
func TestParseRandom(t *testing.T) {
	r := rand.New(rand.NewSource(201))
	seen := map[string]int{}
	for i := range 20000 {
		l := plainWords(randomQuery(r, pick(r, 3, 8, 31, 32), pick(r, 2, 16)))
		for range i % 4 {
			l = spoilt(r, l)
		}
		text, _ := laid(r, l)
		switch sameParse(t, text).code {
		case api.OK:
			seen["read"]++
		case api.ErrQuery:
			seen["refused"]++
		case api.ErrCapture:
			seen["captures"]++
		case api.ErrPatterns:
			seen["limits"]++
		}
	}
	enough(t, seen, 200, "read", "refused", "captures", "limits")
}

// 20.1: blanks, comments and the way in which a word is written change nothing but places.
func TestWordsAlone(t *testing.T) {
	r := rand.New(rand.NewSource(202))
	at := func(place int, places []int, end int) int {
		for i, p := range places {
			if p == place {
				return i
			}
		}
		if place != end {
			t.Fatalf("20.1: an error at %d, where no word begins", place)
		}
		return len(places)
	}
	for i := range 5000 {
		l := plainWords(randomQuery(r, 6, 3))
		if i%2 == 0 {
			l = spoilt(r, l)
		}
		one, from := laid(r, l)
		two, to := laid(r, l)
		a, b := read(one), read(two)
		if a.code != api.OK {
			a.place, b.place = at(a.place, from, len(one)), at(b.place, to, len(two))
		}
		if !same(a, b) {
			t.Fatalf("20.1: %q is read as %+v, %q as %+v", one, a, two, b)
		}
	}
}

// P1: any bytes.
func TestParseAnyBytes(t *testing.T) {
	r := rand.New(rand.NewSource(203))
	for range 20000 {
		text := make([]byte, r.Intn(30))
		for i := range text {
			text[i] = pick(r, byte(r.Intn(256)), '(', ')', '@', ':', '"', 'a', ' ', '\\')
		}
		sameParse(t, string(text))
	}
	for _, text := range []string{strings.Repeat("(", api.MaxDefn), strings.Repeat("(a", api.MaxDefn/2), strings.Repeat(")", api.MaxDefn), strings.Repeat("@", api.MaxDefn), strings.Repeat("(", 1<<20), strings.Repeat("f:", api.MaxDefn/2)} {
		if got := read(text); got.code == api.OK {
			t.Errorf("20.1: %d bytes that begin with %.8q are read", len(text), text)
		}
	}
}

// wordsOf: the words of a text that has no error.
func wordsOf(text string) []api.Word {
	l, _, _ := words.Cut(text)
	return l
}
