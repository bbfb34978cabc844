package json_test

import (
	"fmt"
	"math/rand"
	"slices"
	"strings"
	"testing"
	"unicode/utf8"

	"trellis/api"
)

func node(kind api.JKind, text string) api.JNode { return api.JNode{Kind: kind, Text: text} }

func many(kind api.JKind, kids int) api.JNode { return api.JNode{Kind: kind, Kids: kids} }

func keyed(key string, n api.JNode) api.JNode {
	n.Key = key
	return n
}

func example() []api.JNode {
	return []api.JNode{many(api.JObject, 2), keyed("a", many(api.JList, 3)), node(api.JNumber, "1"), node(api.JNumber, "-0.5e3"), node(api.JString, "é\n"), keyed("b", many(api.JObject, 0))}
}

const exampleText = ` {"a":[1,-0.5e3,"\u00e9\n"],"b":{}} `

// sameParse: 25.1 of a text, P4 with it.
func sameParse(t *testing.T, text string) answer {
	t.Helper()
	got, want := parse(text), plainParse(text)
	if !got.alike(want) {
		t.Fatalf("25.1: Parse(%.300q) = %.300v, want %.300v", text, got, want)
	}
	return got
}

// 25.1: the chapter's examples, and the edges that it names.
func TestParse(t *testing.T) {
	one := func(kind api.JKind, text string) []api.JNode { return []api.JNode{node(kind, text)} }
	for _, c := range []struct {
		text string
		want []api.JNode
	}{
		{exampleText, example()},
		{"null", one(api.JNull, "")}, {"false", one(api.JFalse, "")}, {"true", one(api.JTrue, "")}, {" \t\n\rnull\r\n\t ", one(api.JNull, "")},
		{"0", one(api.JNumber, "0")}, {"-0", one(api.JNumber, "-0")}, {"10", one(api.JNumber, "10")}, {"0.0", one(api.JNumber, "0.0")}, {"0e0", one(api.JNumber, "0e0")}, {"-9.00E-00", one(api.JNumber, "-9.00E-00")}, {"1e+09", one(api.JNumber, "1e+09")}, {" 7 ", one(api.JNumber, "7")}, {strings.Repeat("9", 999), one(api.JNumber, strings.Repeat("9", 999))},
		{`""`, one(api.JString, "")}, {`"\"\\\/\b\f\n\r\t"`, one(api.JString, "\"\\/\b\f\n\r\t")}, {`"\u0000\u0022\u005C\u002f"`, one(api.JString, "\x00\"\\/")}, {"\"\x7f \u0080\u2028\ufeff\uffff\"", one(api.JString, "\x7f \u0080\u2028\ufeff\uffff")},
		{`"\ud83d\ude00"`, one(api.JString, "😀")}, {`"\uD800\uDC00\uDbfF\udFFf"`, one(api.JString, "\U00010000\U0010ffff")}, {`"\uD7FF\ue000\uFFFF\uaBcD"`, one(api.JString, "\ud7ff\ue000\uffff\uabcd")}, {`"\ud83d\ude00\ud83d\ude01"`, one(api.JString, "😀😁")}, {`"\ufffd` + "\ufffd\"", one(api.JString, "\ufffd\ufffd")},
		{`"\u00410"`, one(api.JString, "A0")}, {`"[{,:]}"`, one(api.JString, "[{,:]}")}, {`"\\u0041"`, one(api.JString, `\u0041`)},
		{"[]", []api.JNode{many(api.JList, 0)}}, {"[\n]", []api.JNode{many(api.JList, 0)}}, {"{}", []api.JNode{many(api.JObject, 0)}}, {"{\t}", []api.JNode{many(api.JObject, 0)}},
		{"[ 1 , [ ] , true ]", []api.JNode{many(api.JList, 3), node(api.JNumber, "1"), many(api.JList, 0), node(api.JTrue, "")}},
		{`{"":null}`, []api.JNode{many(api.JObject, 1), node(api.JNull, "")}},
		{"{ \"a\" : 1 , \"\\u0062\\n\" : \"\" }", []api.JNode{many(api.JObject, 2), keyed("a", node(api.JNumber, "1")), keyed("b\n", node(api.JString, ""))}},
		{`{"a":{"a":1},"A":[{"a":2},{"a":3}]}`, []api.JNode{many(api.JObject, 2), keyed("a", many(api.JObject, 1)), keyed("a", node(api.JNumber, "1")), keyed("A", many(api.JList, 2)), many(api.JObject, 1), keyed("a", node(api.JNumber, "2")), many(api.JObject, 1), keyed("a", node(api.JNumber, "3"))}},
		{`["a","a"]`, []api.JNode{many(api.JList, 2), node(api.JString, "a"), node(api.JString, "a")}},
	} {
		if got := sameParse(t, c.text); !got.alike(answer{value: c.want}) {
			t.Errorf("25.1: Parse(%q) = %+v, want %+v", c.text, got, c.want)
		}
	}
}

// 25.1: the places of what is no JSON.
func TestParseErrors(t *testing.T) {
	for _, c := range []struct {
		text string
		at   int
	}{
		{"", 0}, {"01", 1}, {"[1,]", 3}, {`{"a":1,}`, 7}, {"nul", 3}, {"1 2", 2}, {`"a`, 2}, {"-", 1}, {"1.", 2}, {"1e+", 3}, {`"\x"`, 2}, {`"\u12g4"`, 5}, {"\"\n", 1},
		{`"\ud83d"`, 7}, {`"\ud83dx"`, 7}, {`"\ude00"`, 4}, {`{"a":1,"a":2}`, 7}, {`{"a":1,"\u0061":}`, 7}, {`"\ud800x`, 7}, {`"\udc00"`, 4},
		{" ", 1}, {"  x", 2}, {"nulL", 3}, {"Null", 0}, {"nullx", 4}, {"t", 1}, {"trUe", 2}, {"truefalse", 4}, {"\v1", 0}, {"\xa01", 0}, {"\ufeffnull", 0}, {"1\x00", 1}, {"//", 0},
		{"+1", 0}, {".5", 0}, {"-a", 1}, {"--1", 1}, {"-01", 2}, {"00", 1}, {"1..2", 2}, {"1.e1", 2}, {"1.5.", 3}, {"1e", 2}, {"1e.", 2}, {"1e-", 3}, {"1e1.5", 3}, {"1e1e", 3}, {"0x10", 1}, {"1e+-1", 3}, {"-\n1", 1}, {"1-", 1}, {"1,", 1}, {"Infinity", 0}, {"NaN", 0},
		{`"`, 1}, {`"\`, 2}, {`"\"`, 3}, {`"a""`, 3}, {"\"\t\"", 1}, {"\"\x1f\"", 1}, {"\"\x00\"", 1}, {`"\U0041"`, 2}, {`"\v"`, 2}, {`"\'"`, 2}, {`"\0"`, 2}, {"\"\\\n\"", 2}, {"\"\\\xc3\xa9\"", 2}, {`'a'`, 0}, {`"\x41"`, 2},
		{`"\u`, 3}, {`"\u"`, 3}, {`"\u004"`, 6}, {`"\u004`, 6}, {`"\u-041"`, 3}, {`"\u+041"`, 3}, {`"\u 041"`, 3}, {`"\u00_1"`, 5}, {`"\u:000"`, 3}, {`"\u@000"`, 3}, {`"\u` + "`000\"", 3}, {`"\uG000"`, 3}, {"\"\\u00\xc3\xa9\"", 5},
		{`"\ud8`, 5}, {`"\ud83d`, 7}, {`"\ud83d\`, 8}, {`"\ud83d\n"`, 8}, {`"\ud83d\u`, 9}, {`"\ud83d\u0041"`, 9}, {`"\ud83d\ud83d"`, 10}, {`"\uDBFF\uDB00"`, 10}, {`"\ud83d\ud7ff"`, 10}, {`"\ud83d\ue000"`, 9}, {`"\ud83d\udc0"`, 12}, {`"\ud83d\udg"`, 10}, {`"\ud83d\\ude00"`, 8}, {`"\uDFFF"`, 4}, {`"\ud83d\ude00\ude00"`, 16}, {`"\uDg00"`, 4}, {`"\ud8g0"`, 5},
		{"\"\x80\"", 1}, {"\"\xbf\"", 1}, {"\"\xc0\x80\"", 1}, {"\"\xc1\xbf\"", 1}, {"\"\xc2\"", 2}, {"\"\xc2", 2}, {"\"\xc2\xc2\"", 2}, {"\"\xe0\x9f\xbf\"", 2}, {"\"\xe0\xa0\"", 3}, {"\"\xed\xa0\x80\"", 2}, {"\"\xed\x9f\xc0\"", 3}, {"\"\xf0\x8f\xbf\xbf\"", 2}, {"\"\xf0\x90\x80\"", 4}, {"\"\xf4\x90\x80\x80\"", 2}, {"\"\xf4\x8f\xbf\x7f\"", 4}, {"\"\xf5\x80\"", 1}, {"\"\xff\"", 1}, {"\xc3\xa9", 0}, {"[\"\xf0\x9f\x98", 5},
		{"[", 1}, {"[ ", 2}, {"]", 0}, {"[,", 1}, {"[1", 2}, {"[1 ", 3}, {"[1 2]", 3}, {"[1,,2]", 3}, {"[1}", 2}, {"[]]", 2}, {"[:]", 1}, {"[1:2]", 2}, {"[}", 1}, {"[1,}", 3},
		{"{", 1}, {"{ ", 2}, {"}", 0}, {"{,}", 1}, {"{1:2}", 1}, {"{a:1}", 1}, {`{"a"`, 4}, {`{"a"}`, 4}, {`{"a" 1}`, 5}, {`{"a",`, 4}, {`{"a":}`, 5}, {`{"a"::`, 5}, {`{"a":1`, 6}, {`{"a":1]`, 6}, {`{"a":1 "b"`, 7}, {`{"a":1,,`, 7}, {`{"a":1,b`, 7}, {`{"a":1:`, 6}, {"{]", 1}, {"{null:1}", 1}, {`{"a":1,"b"}`, 10}, {"{[]:1}", 1},
	} {
		if got := sameParse(t, c.text); !got.alike(answer{nil, api.ErrJson, c.at}) {
			t.Errorf("25.1: Parse(%q) = %+v, want ErrJson at %d", c.text, got, c.at)
		}
	}
}

// 25.1: keys that are equal, as soon as the second one has been read, and no sooner.
func TestParseKeys(t *testing.T) {
	for _, c := range []struct {
		text string
		at   int
	}{
		{`{"a":1,"a`, 9}, {`{"a":1,"a"`, 7}, {`{"a":1,"a\`, 10}, {`{"a":1,"a" x`, 7}, {`{"a":1,"b":2,"c":3,"b":`, 19}, {`{"a":[{"a":1},{"a":{"b":1,"b`, 28}, {`{"a":[{"a":1},{"a":{"b":1,"b"`, 26},
		{`{"":1,"":2}`, 6}, {`{"":1, ""`, 7}, {"{\"\\n\":1,\t\"\\u000A\":2}", 9}, {`{"😀":1,"\uD83D\uDE00":2}`, 10}, {`{"/":1,"\/":2}`, 7}, {`{"a":{"b":1},"a":2}`, 13}, {`[{"a":1,"a":2},x`, 8}, {`{"a":1,"aa":2,"aaa":3,"aa"`, 22},
	} {
		if got := sameParse(t, c.text); !got.alike(answer{nil, api.ErrJson, c.at}) {
			t.Errorf("25.1: Parse(%q) = %+v, want ErrJson at %d", c.text, got, c.at)
		}
	}
	for _, text := range []string{`{"a":1,"A":2,"a ":3,"\u0000a":4,"á":5,"a\u0301":6,"":7}`, `{"a":{"a":{"a":1}}}`, `[{"a":1},{"a":1}]`, `{"a":"a","b":"a"}`, `{"x":{"a":1},"y":{"a":1},"a":1}`} {
		if got := sameParse(t, text); got.code != api.OK {
			t.Errorf("25.1: Parse(%q) = %+v", text, got)
		}
	}
}

// 25.1: as deep as there may be, and one deeper; what cannot stand there at all counts ahead of that.
func TestParseDeep(t *testing.T) {
	for _, c := range []struct{ open, inner, close string }{{"[", "", "]"}, {`{"a":`, "1", "}"}, {` [ `, "[]", "]"}, {`{"a":[`, "null", "]}"}, {`[1,{"b":2,"a":`, `"x"`, "}]"}} {
		one := strings.Count(c.open, "[") + strings.Count(c.open, "{")
		most := strings.Repeat(c.open, 64/one-strings.Count(c.inner, "["))
		text := most + c.inner + strings.Repeat(c.close, strings.Count(most, c.open))
		if got := sameParse(t, text); got.code != api.OK {
			t.Errorf("25.1: Parse(%q): %d at %d", text, got.code, got.place)
		}
		for _, bracket := range []string{"[", "{", "[]", `{"a":1}`, "[x"} {
			full := strings.Repeat(c.open, 64/one)
			if one == 1 && c.open == "[" {
				full = strings.Repeat("[", 64)
			}
			if got := sameParse(t, full+bracket); !got.alike(answer{nil, api.ErrJdeep, len(full)}) {
				t.Errorf("25.1: Parse(%q): %d at %d, want ErrJdeep at %d", full+bracket, got.code, got.place, len(full))
			}
			if got := sameParse(t, full+`"[{`+bracket); got.code != api.ErrJson {
				t.Errorf("25.1: brackets in a string: %d at %d", got.code, got.place)
			}
		}
	}
	deep := strings.Repeat("[", 64)
	for _, c := range []struct {
		text string
		code api.Errno
		at   int
	}{
		{deep + "[", api.ErrJdeep, 64}, {deep + " [", api.ErrJdeep, 65}, {deep + "1[", api.ErrJson, 65}, {deep + "1,[", api.ErrJdeep, 66}, {deep + ",[", api.ErrJson, 64}, {deep + "][", api.ErrJson, 65}, {deep + "],[", api.ErrJson, 67}, {deep + "],[[", api.ErrJdeep, 67}, {deep + "]],[[[", api.ErrJdeep, 69}, {"x" + deep + "[", api.ErrJson, 0}, {strings.Repeat("[", 1<<16), api.ErrJdeep, 64}, {strings.Repeat("{", 99), api.ErrJson, 1}, {deep, api.ErrJson, 64}, {strings.Repeat(`{"a":1,"b":`, 64) + `{"c`, api.ErrJdeep, 704}, {strings.Repeat(`{"a":1,"b":`, 63) + `{"b":1,"b"` + "[", api.ErrJson, 700},
	} {
		if got := sameParse(t, c.text); !got.alike(answer{nil, c.code, c.at}) {
			t.Errorf("25.1: Parse(%.80q..): %d at %d, want %d at %d", c.text, got.code, got.place, c.code, c.at)
		}
	}
}

// grow: all texts of at most n of these pieces behind a beginning that go on from what has no error ahead of its end; and each of these with one further piece.
func grow(t *testing.T, text string, pieces []string, n int, seen map[string]int) {
	got := sameParse(t, text)
	seen[kindOf(got, text)]++
	if n == 0 || got.code != api.OK && got.place < len(text) {
		return
	}
	for _, p := range pieces {
		grow(t, text+p, pieces, n-1, seen)
	}
}

// 25.1: all short texts of what means something.
func TestParseAllShort(t *testing.T) {
	bytes := func(s string) []string { return strings.Split(s, "") }
	for _, c := range []struct {
		begin  string
		pieces []string
		n      int
		kinds  []string
	}{
		{"", bytes(`{}[]",:\u1 -`), 5, []string{"fine", "early", "wrong"}},
		{"", []string{"{", "}", "[", "]", ",", ":", `"a"`, `"\u0061"`, "1", " "}, 8, []string{"fine", "early", "wrong", "twice"}},
		{`{"a":1`, []string{`,"a"`, `,"b"`, ":", "1", "{", "}", "[]"}, 8, []string{"fine", "early", "wrong", "twice"}},
		{"", bytes("-+.eE019 "), 7, []string{"fine", "early", "wrong"}},
		{`"`, bytes("\\u\"dD8x\n"), 7, []string{"fine", "early", "wrong"}},
		{`"\ud`, bytes("8cd0\\u\""), 8, []string{"fine", "early", "wrong"}},
		{`"\uD8bf`, bytes(`7bCdDgU\u"`), 8, []string{"fine", "early", "wrong"}},
		{"", bytes("nulltruefalse "), 6, []string{"fine", "early", "wrong"}},
		{strings.Repeat("[", 62), []string{"[", "]", "{", "}", ",", `"a":`}, 8, []string{"early", "wrong", "deep", "twice"}},
	} {
		seen := map[string]int{}
		grow(t, c.begin, slices.Compact(slices.Sorted(slices.Values(c.pieces))), c.n, seen)
		enough(t, 4, seen, c.kinds...)
	}
}

// 25.1: sequences of UTF-8 and what is none, of all bytes that tell one kind from another.
func TestParseSequences(t *testing.T) {
	edges := strings.Split("\x1f\x20\x7f\x80\x8f\x90\x9f\xa0\xbf\xc0\xc1\xc2\xdf\xe0\xe1\xec\xed\xee\xef\xf0\xf1\xf3\xf4\xf5\xff", "")
	if len(edges) != 25 {
		t.Fatalf("%d edges", len(edges))
	}
	seen := map[string]int{}
	grow(t, `"`, append(edges, `"`), 5, seen)
	enough(t, 100, seen, "fine", "early", "wrong")
	for b := range 256 {
		for _, frame := range []string{"@", "1@", "[@", "[1@", "{@", `{"a"@`, `{"a":@`, `"@"`, `"\@"`, `"\u@`, `"\ud@`, `"\ud83d@`, `"\ud83d\@`, `"\ud83d\u@`, `"\ud83d\ud@`, `"\ud83d\udc0@"`, `"\u004@"`, "t@ue", "-@", "1.@", "1e@", "0@", "\"\xe0@\x80\"", "\"\xed@\x80\"", "\"\xf0@\x80\x80\"", "\"\xf4@\x80\x80\"", "\"\xf1\x80@\x80\"", "\"\xf1\x80\x80@\""} {
			sameParse(t, strings.ReplaceAll(frame, "@", string([]byte{byte(b)})))
		}
	}
}

// 25.1: every code point, as it is and by its digits.
func TestParseCodePoints(t *testing.T) {
	var all, digits strings.Builder
	for c := range rune(0x110000) {
		if c < 32 || c == '"' || c == '\\' || !utf8.ValidRune(c) {
			continue
		}
		all.WriteRune(c)
		digits.WriteString(`\u` + written(c))
	}
	for _, text := range []string{all.String(), digits.String(), strings.ReplaceAll(strings.ToUpper(digits.String()), `\U`, `\u`)} {
		got := parse(`"` + text + `"`)
		if got.code != api.OK || got.place != 0 || len(got.value) != 1 || got.value[0].Text != all.String() {
			t.Errorf("25.1: all code points, %.30q..: %d at %d", text, got.code, got.place)
		}
	}
	for c := range 0x10000 {
		text := fmt.Sprintf(`"\u%04x"`, c)
		got := parse(text)
		switch {
		case c < 0xd800 || c > 0xdfff:
			if got.code != api.OK || got.value[0].Text != string(rune(c)) {
				t.Errorf("25.1: Parse(%s) = %+v", text, got)
			}
		case c < 0xdc00 && !got.alike(answer{nil, api.ErrJson, 7}), c >= 0xdc00 && !got.alike(answer{nil, api.ErrJson, 4}):
			t.Errorf("25.1: Parse(%s) = %+v", text, got)
		}
	}
}

// 25.1: random texts: of values, with bytes changed, with keys that come up again.
func TestParseRandom(t *testing.T) {
	r := rand.New(rand.NewSource(251))
	seen := map[string]int{}
	for i := range 40000 {
		v := anyValue(r, "", 3)
		if i%4 == 0 {
			for i := range v {
				if v[i].Key != "" && r.Intn(8) > 0 {
					v[i].Key = pick(r, "a", "b")
				}
			}
		}
		text := loose(r, v)
		if i%4 > 1 {
			text = spoilt(r, text)
		}
		got := sameParse(t, text)
		if i%4 == 1 && !slices.Equal(got.value, v) {
			t.Fatalf("25.1: Parse(%q) = %+v, want %+v", text, got, v)
		}
		seen[kindOf(got, text)]++
	}
	enough(t, 400, seen, "fine", "early", "wrong", "twice")
}
