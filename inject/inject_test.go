package inject_test

import (
	"slices"
	"strconv"
	"strings"
	"testing"

	"trellis/api"
	"trellis/inject"
	"trellis/parse"
)

// The languages of the chapter's examples, and some more over the same bytes.
const (
	outer = `language outer; token str /'[^']*'/; token w /[a-z]+/; skip / +/; rule s = (w | str)*; paint w "word"; paint str "string"; inject str inner;`
	inner = `language inner; token q /'/; token w /[a-z]+/; skip / +/; rule s = q w* q; paint w "inside";`
	self  = `language self; token b /[a-z]+/; rule s = b; inject s self;`
	pairs = `language pairs; token w /[a-z]+/; skip / +/; rule s = p*; rule p = w | "(" p* ")"; inject p bytes; paint "(" "sign"; paint w "word";`
	bytes = `language bytes; token c /[^x]/; rule _s = c*; inject c self; paint c "byte";`
)

// most: bytes of the longest texts.
const most = 1 << 20

// told: places as a text: "outer 0-9, inner 2-7 in 0".
func told(l []api.Layer) string {
	var out []string
	for _, x := range l {
		s := x.Lang + " " + strconv.Itoa(x.From) + "-" + strconv.Itoa(x.To)
		if x.In >= 0 {
			s += " in " + strconv.Itoa(x.In)
		}
		out = append(out, s)
	}
	return strings.Join(out, ", ")
}

func toldSpans(l []api.Span) string {
	var out []string
	for _, s := range l {
		out = append(out, strconv.Itoa(s.From)+"-"+strconv.Itoa(s.To)+" "+s.Class)
	}
	return strings.Join(out, ", ")
}

// row: a text in a language, what its layers are, and what its spans.
type row struct{ name, text, layers, spans string }

func checkRows(t *testing.T, langs []api.Lang, rows ...row) {
	t.Helper()
	for _, c := range rows {
		l, spans := check(t, langs, c.name, c.text)
		if got := told(l); got != c.layers {
			t.Errorf("24.1: %s, %q: %s, want %s", c.name, c.text, got, c.layers)
		}
		if got := toldSpans(spans); got != c.spans {
			t.Errorf("24.2: %s, %q: %s, want %s", c.name, c.text, got, c.spans)
		}
	}
}

// The chapter's table.
func TestExamples(t *testing.T) {
	l := allLoaded(t, outer, inner, self)
	const text = `a 'b c' d`
	checkRows(t, l,
		row{"outer", text, "outer 0-9, inner 2-7 in 0", "0-1 word, 2-3 string, 3-4 inside, 4-5 string, 5-6 inside, 6-7 string, 8-9 word"},
		row{"inner", `'b'`, "inner 0-3", "1-2 inside"},
		row{"self", "ab", "self 0-2, self 0-2 in 0, self 0-2 in 1, self 0-2 in 2", ""},
	)
	checkRows(t, l[:1], row{"outer", text, "outer 0-9", "0-1 word, 2-7 string, 8-9 word"})
	x, code := inject.Parse(l, "outer", text)
	if code != api.OK || !same(x[1].Result, parse.Parse(l[1], `'b c'`)) || x[1].Result.Code != api.OK {
		t.Errorf("24.3: %+v, %d", x[1].Result, code)
	}
	if x, code := inject.Parse(l, "other", text); x != nil || code != api.ErrLang {
		t.Errorf("24.1: %v, %d", places(x), code)
	}
}

// 24.1: what cannot be parsed.
func TestRefused(t *testing.T) {
	l := allLoaded(t, outer, inner)
	for _, c := range []struct {
		langs []api.Lang
		name  string
		size  int
		code  api.Errno
	}{
		{l, "outer", most, api.OK},
		{l, "outer", most + 1, api.ErrBig},
		{l, "outer", 3 * most, api.ErrBig},
		{l, "nobody", 1, api.ErrLang},
		{l, "nobody", most + 1, api.ErrLang}, // which is named first
		{l, "Outer", 1, api.ErrLang},
		{l, "outer ", 1, api.ErrLang},
		{l, "oute", 1, api.ErrLang},
		{l, "", 1, api.ErrLang},
		{l[1:], "outer", 1, api.ErrLang},
		{nil, "outer", 1, api.ErrLang},
		{nil, "", 0, api.ErrLang},
		{nil, "", most + 1, api.ErrLang},
		{[]api.Lang{}, "outer", 0, api.ErrLang},
	} {
		x, code := inject.Parse(c.langs, c.name, strings.Repeat("a", c.size))
		if code != c.code || code == api.OK && len(x) != 1 || code != api.OK && x != nil {
			t.Errorf("24.1: %v, %s, %d bytes: %v, %d, want %d", namesOf(c.langs), c.name, c.size, places(x), code, c.code)
		}
	}
}

// 24.1: which nodes are taken.
func TestTaken(t *testing.T) {
	checkRows(t, allLoaded(t, pairs, bytes, self, inner),
		row{"pairs", "", "pairs 0-0", ""},
		row{"pairs", "  ", "pairs 0-2", ""},
		row{"pairs", "a", "pairs 0-1, bytes 0-1 in 0, self 0-1 in 1, self 0-1 in 2", "0-1 byte"},
		row{"pairs", "a(b)", "pairs 0-4, bytes 0-1 in 0, self 0-1 in 1, self 0-1 in 2, bytes 1-4 in 0, self 1-2 in 4, self 2-3 in 4, self 2-3 in 6, self 3-4 in 4", "0-4 byte"}, // the inner p stands within one that is taken
		row{"pairs", "x (x", "pairs 0-4, bytes 0-1 in 0", "0-1 word, 2-3 sign, 3-4 word"},                                                                                       // refused: no second p yet; and the first one's text is refused in bytes
		row{"pairs", "(x) b", "pairs 0-5, bytes 0-3 in 0, self 0-1 in 1, bytes 4-5 in 0, self 4-5 in 3, self 4-5 in 4", "0-1 byte, 1-2 word, 4-5 byte"},
		row{"bytes", "ab", "bytes 0-2, self 0-1 in 0, self 0-1 in 1, self 0-1 in 2, self 1-2 in 0, self 1-2 in 4, self 1-2 in 5", "0-2 byte"}, // several roots
		row{"self", "", "self 0-0", ""},
		row{"self", "a?", "self 0-2", ""}, // b alone: there is no s yet
	)
}

// 24.1: nodes that are not named, or without a byte, or whose line names no language of the list.
func TestNotTaken(t *testing.T) {
	l := allLoaded(t, self,
		`language lits; token w /[a-c]+/; rule s = (w @ x | "x")*; inject x self;`,
		`language hidden; token _w /[a-z]+/; skip / +/; rule s = (_w | "." _w @ n | _t @ n)*; rule _t = "(" _w @ m ")"; inject n self; inject m self;`,
		`language empty; token w /[a-z]/; rule s = e w* e; rule e = (); inject e self; paint e "none";`,
		`language lacks; token w /[a-z]+/; rule s = p; rule p = w ("." s)?; inject s nobody; inject p none; inject w self; paint p "p";`,
	)
	checkRows(t, l,
		row{"lits", "xabx", "lits 0-4, self 1-3 in 0, self 1-3 in 1, self 1-3 in 2", ""}, // x is a literal's text, too
		row{"hidden", "a .b", "hidden 0-4, self 3-4 in 0, self 3-4 in 1, self 3-4 in 2", ""},
		row{"hidden", "(a)", "hidden 0-3, self 0-3 in 0", ""}, // n is around m
		row{"empty", "", "empty 0-0", ""},
		row{"empty", "ab", "empty 0-2", ""},
		row{"lacks", "a.b", "lacks 0-3, self 0-1 in 0, self 0-1 in 1, self 0-1 in 2, self 2-3 in 0, self 2-3 in 4, self 2-3 in 5", "0-3 p"},
	)
}

// 24.2: which layer's class a byte has, and which bytes are one span.
func TestSpans(t *testing.T) {
	l := allLoaded(t,
		`language lines; token l /[^\n]+/; skip /\n/; rule s = l*; inject l words; paint l "line";`,
		`language words; token w /[a-z]+/; token o /[^a-z]/; rule s = (w | o)*; inject w letters; paint w "line"; paint o "";`,
		`language letters; token x /[a-f]/; token y /[g-z]/; rule s = (x | y)*; paint x "x"; paint y "";`,
		`language bare; token l /[^\n]/; skip /\n/; rule s = l*; inject l letters;`,
		`language whole; token l /[^\n]+/; skip /\n/; rule s = l*; inject s lines; paint s "whole"; paint l "x";`,
	)
	checkRows(t, l,
		row{"lines", "ab\ngh a", "lines 0-7, words 0-2 in 0, letters 0-2 in 1, words 3-7 in 0, letters 3-5 in 3, letters 6-7 in 3", "0-2 x, 3-6 line, 6-7 x"},
		row{"bare", "ab", "bare 0-2, letters 0-1 in 0, letters 1-2 in 0", "0-2 x"}, // one span of two layers
		row{"bare", "agb\nc", "bare 0-5, letters 0-1 in 0, letters 1-2 in 0, letters 2-3 in 0, letters 4-5 in 0", "0-1 x, 2-3 x, 4-5 x"},
		row{"whole", "ga\n\n.b", "whole 0-6, lines 0-6 in 0, words 0-2 in 1, letters 0-2 in 2, words 4-6 in 1, letters 5-6 in 4", "0-1 line, 1-2 x, 2-4 whole, 4-5 line, 5-6 x"},
	)
	for _, langs := range [][]api.Lang{nil, l} {
		if got := inject.Spans(langs, nil); len(got) != 0 {
			t.Errorf("24.2: %v", got)
		}
	}
}

// The language of a name is the first one that is called so, for layers and for their classes.
func TestOneName(t *testing.T) {
	const word = "language word; token w /[a-z]+/; rule s = w; "
	l := allLoaded(t, outer, word+`paint w "one";`, word+`inject w word; paint w "two";`, `language outer; rule s = "b"; paint "b" "b";`, `language in; token w /[a-z]+/; rule s = w; inject w word;`)
	checkRows(t, l,
		row{"word", "b", "word 0-1", "0-1 one"},
		row{"in", "b", "in 0-1, word 0-1 in 0", "0-1 one"},
		row{"outer", "b", "outer 0-1", "0-1 word"},
	)
	slices.Reverse(l)
	checkRows(t, l,
		row{"word", "b", "word 0-1, word 0-1 in 0, word 0-1 in 1, word 0-1 in 2", "0-1 two"},
		row{"in", "b", "in 0-1, word 0-1 in 0, word 0-1 in 1, word 0-1 in 2", "0-1 two"},
		row{"outer", "b", "outer 0-1", "0-1 b"},
	)
}

// Strings, holes and bodies of a language whose layout matters.
func TestLittle(t *testing.T) {
	l := allLoaded(t, little+`inject CHARS words; inject BODY little; inject string strings; paint NAME "name"; paint BODY "body"; paint string "string";`,
		`language words; token w /[a-z]+/; skip / +/; rule s = w*; paint w "word";`,
		`language strings; token q /"/; token c /[^"]/; rule s = q c* q; paint q "quote";`,
	)
	checkRows(t, l[:2],
		row{"little", "a = \"b ${c}d\"\n", "little 0-14, words 5-7 in 0, words 11-12 in 0", "0-1 name, 4-5 string, 5-6 word, 6-9 string, 9-10 name, 10-11 string, 11-12 word, 12-13 string"},
		row{"little", "a = <<E\nb = <<F\nx\nF\nE\n", "little 0-22, little 8-21 in 0, little 16-19 in 1", "0-1 name, 8-9 name, 9-16 body, 16-17 name, 17-21 body"}, // the inner ones are refused where the delimiters stand
	)
	checkRows(t, l, // the string is taken, whatever stands in it
		row{"little", "a = \"b ${c}\"\n", "little 0-13, strings 4-12 in 0", "0-1 name, 4-5 quote, 5-9 string, 9-10 name, 10-11 string, 11-12 quote"},
	)
}

// 24.1: of inject lines with one name the first one counts, if the list has no language that it names, too. (No definition has two such lines.)
func TestFirstLine(t *testing.T) {
	l := allLoaded(t, `language two; token w /[a-z]+/; rule s = w; inject w inner;`, inner, self)
	for _, c := range []struct{ first, second, layers string }{
		{"inner", "self", "two 0-2, inner 0-2 in 0"},
		{"self", "inner", "two 0-2, self 0-2 in 0, self 0-2 in 1, self 0-2 in 2"},
		{"nobody", "inner", "two 0-2"},
		{"inner", "nobody", "two 0-2, inner 0-2 in 0"},
	} {
		l[0].Injects = []api.InjectDef{{Name: "w", Lang: c.first}, {Name: "w", Lang: c.second}}
		checkRows(t, l, row{"two", "ab", c.layers, ""})
	}
}
