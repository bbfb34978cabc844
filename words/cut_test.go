package words_test

import (
	"math/rand"
	"strings"
	"testing"

	"trellis/api"
	"trellis/words"
)

func word(kind api.WordKind, text string, at int) api.Word {
	return api.Word{Kind: kind, Text: text, At: at}
}

func number(n, at int) api.Word { return api.Word{Kind: api.WordNumber, N: n, At: at} }

// sameCut: 8.1 of a text, P4 with it.
func sameCut(t *testing.T, text string) answer {
	t.Helper()
	got, want := cut(text), plainCut(text)
	if !got.alike(want) {
		t.Fatalf("8.1: Cut(%q) = %+v, want %+v", text, got, want)
	}
	return got
}

// 8.1: the chapter's examples, and the edges that it names.
func TestCut(t *testing.T) {
	const nm, st, re, sg = api.WordName, api.WordString, api.WordRegex, api.WordSign
	most := strings.Repeat("n", 24)
	for _, c := range []struct {
		text string
		want []api.Word
	}{
		{"rule s = a* ; # the end", []api.Word{word(nm, "rule", 0), word(nm, "s", 5), word(sg, "=", 7), word(nm, "a", 9), word(sg, "*", 10), word(sg, ";", 12)}},
		{"12ab_3 007", []api.Word{number(12, 0), word(nm, "ab_3", 2), number(7, 7)}},
		{`"a\"\x41\n"`, []api.Word{word(st, "a\"A\n", 0)}}, {`/[\/]+/`, []api.Word{word(re, `[\/]+`, 0)}}, {"", nil}, {" # a", nil},
		{" \t\r\n", nil}, {"#", nil}, {"##\n#", nil}, {"#\"\n", nil}, {"#/\n9", []api.Word{number(9, 3)}}, {"# a\r", nil},
		{"a#b\nc", []api.Word{word(nm, "a", 0), word(nm, "c", 4)}}, {"1#", []api.Word{number(1, 0)}}, {";#;\n;", []api.Word{word(sg, ";", 0), word(sg, ";", 4)}},
		{most, []api.Word{word(nm, most, 0)}}, {most + "(", []api.Word{word(nm, most, 0), word(sg, "(", 24)}}, {"_", []api.Word{word(nm, "_", 0)}}, {"_0", []api.Word{word(nm, "_0", 0)}}, {"azAZ09_", []api.Word{word(nm, "azAZ09_", 0)}},
		{"0", []api.Word{number(0, 0)}}, {"65535", []api.Word{number(65535, 0)}}, {strings.Repeat("0", 99) + "65535", []api.Word{number(65535, 0)}}, {"0x10", []api.Word{number(0, 0), word(nm, "x10", 1)}}, {"9_", []api.Word{number(9, 0), word(nm, "_", 1)}}, {"1\n2", []api.Word{number(1, 0), number(2, 2)}},
		{`""`, []api.Word{word(st, "", 0)}}, {`"a""b"`, []api.Word{word(st, "a", 0), word(st, "b", 3)}}, {`"\\"`, []api.Word{word(st, `\`, 0)}}, {`"\\\""`, []api.Word{word(st, `\"`, 0)}}, {`"/#'"`, []api.Word{word(st, "/#'", 0)}},
		{"\"\x00\x80\xff\r\t é\"", []api.Word{word(st, "\x00\x80\xff\r\t é", 0)}}, {`"\x00\xff\xFF\x7e\xAb"`, []api.Word{word(st, "\x00\xff\xff~\xab", 0)}}, {`"\r\t\n"`, []api.Word{word(st, "\r\t\n", 0)}}, {`"\x410"`, []api.Word{word(st, "A0", 0)}},
		{`a"b"c`, []api.Word{word(nm, "a", 0), word(st, "b", 1), word(nm, "c", 4)}}, {`1/2/3`, []api.Word{number(1, 0), word(re, "2", 1), number(3, 4)}},
		{"//", []api.Word{word(re, "", 0)}}, {"////", []api.Word{word(re, "", 0), word(re, "", 2)}}, {`/\\/`, []api.Word{word(re, `\\`, 0)}}, {`/\\\//`, []api.Word{word(re, `\\\/`, 0)}}, {`/"#\"/`, []api.Word{word(re, `"#\"`, 0)}}, {"/\\\x00\\\xff\r/", []api.Word{word(re, "\\\x00\\\xff\r", 0)}},
		{"/" + most + most + "/", []api.Word{word(re, most+most, 0)}}, {`"` + most + most + `"`, []api.Word{word(st, most+most, 0)}},
		{"a+?b", []api.Word{word(nm, "a", 0), word(sg, "+", 1), word(sg, "?", 2), word(nm, "b", 3)}},
	} {
		if got := sameCut(t, c.text); !got.alike(answer{words: c.want}) {
			t.Errorf("8.1: Cut(%q) = %+v, want %+v", c.text, got, c.want)
		}
	}
}

// 8.1: the errors, where they are, and the first of several.
func TestCutErrors(t *testing.T) {
	more := strings.Repeat("n", 25)
	for _, c := range []struct {
		text string
		code api.Errno
		at   int
	}{
		{`"a\"\x41\n" /[/\/]+/`, api.ErrByte, 15}, {`"ab`, api.ErrString, 0}, {`"a\q"`, api.ErrString, 2}, {`/a`, api.ErrString, 0}, {`"\`, api.ErrString, 1}, {`/\`, api.ErrString, 0}, {"x & y", api.ErrByte, 2}, {more, api.ErrName, 0}, {"65536", api.ErrNumber, 0}, {`a"`, api.ErrString, 1},
		{"é", api.ErrByte, 0}, {"aé", api.ErrByte, 1}, {"\x00", api.ErrByte, 0}, {"\v", api.ErrByte, 0}, {"\xa0", api.ErrByte, 0}, {"a\\", api.ErrByte, 1}, {"-1", api.ErrByte, 0}, {"1.5", api.ErrByte, 1}, {"a\n&", api.ErrByte, 2}, {"# &\n&", api.ErrByte, 4},
		{"; " + more, api.ErrName, 2}, {more + "&", api.ErrName, 0}, {"& " + more, api.ErrByte, 0}, {"_" + strings.Repeat("9", 24), api.ErrName, 0}, {strings.Repeat("n", 9999), api.ErrName, 0},
		{"065536", api.ErrNumber, 0}, {"1 99999", api.ErrNumber, 2}, {"655350", api.ErrNumber, 0}, {strings.Repeat("9", 9999) + "&", api.ErrNumber, 0}, {"18446744073709551616", api.ErrNumber, 0}, {"70000" + more, api.ErrNumber, 0},
		{`"`, api.ErrString, 0}, {"\"\n\"", api.ErrString, 0}, {`"a" "`, api.ErrString, 4}, {"\"a\\\n\"", api.ErrString, 2}, {`"\x"`, api.ErrString, 1}, {`"\x4"`, api.ErrString, 1}, {`"\x`, api.ErrString, 1}, {`"\x4`, api.ErrString, 1}, {"\"\\x\n\"", api.ErrString, 1}, {`"\xg0"`, api.ErrString, 1}, {`"\x0g"`, api.ErrString, 1}, {`"\X41"`, api.ErrString, 1}, {`"\/"`, api.ErrString, 1}, {`"\0"`, api.ErrString, 1}, {`"\x41\x"`, api.ErrString, 5}, {`"\q\`, api.ErrString, 1}, {`"\x41`, api.ErrString, 0}, {`"\"`, api.ErrString, 0}, {"\"\\\xff\"", api.ErrString, 1},
		{`/`, api.ErrString, 0}, {"/\n/", api.ErrString, 0}, {`/a\/`, api.ErrString, 0}, {"/a\\\n/", api.ErrString, 0}, {"a /\\", api.ErrString, 2}, {`// /`, api.ErrString, 3},
	} {
		if got := sameCut(t, c.text); !got.alike(answer{nil, c.code, c.at}) {
			t.Errorf("8.1: Cut(%q) = %+v, want the error %d at %d", c.text, got, c.code, c.at)
		}
	}
}

// 8.1: a text above MaxDefn bytes is refused, whatever else is wrong in it.
func TestCutLong(t *testing.T) {
	for _, piece := range []string{"a;", "& ", "\"\"", "//", "\n\n", "# "} {
		text := strings.Repeat(piece, api.MaxDefn/2)
		if got := cut(text); got.code == api.ErrLong {
			t.Errorf("8.1: MaxDefn bytes %q: %d", piece, got.code)
		}
		for _, more := range []string{" ", "a", "&", text} {
			if got := cut(text + more); !got.alike(answer{nil, api.ErrLong, api.MaxDefn}) {
				t.Errorf("8.1: more than MaxDefn bytes %q: %d words, %d at %d", piece, len(got.words), got.code, got.place)
			}
		}
	}
	for _, c := range []string{"\"", "/"} {
		long := strings.Repeat("x", api.MaxDefn-2)
		if got := cut(c + long + c); got.code != api.OK || len(got.words) != 1 || got.words[0].Text != long {
			t.Errorf("8.1: a word of MaxDefn bytes: %d words, %d at %d", len(got.words), got.code, got.place)
		}
	}
}

// 8.1: every byte, ahead of a word, behind one, in a comment, in a string, in a regex, behind a backslash.
func TestCutEveryByte(t *testing.T) {
	for b := range 256 {
		c := string([]byte{byte(b)})
		for _, frame := range []string{"@", "@a", "a@", "a@b", "1@", "1@2", ";@", "#@", "#@\n@", "\"@\"", "\"\\@\"", "\"\\@41\"", "\"\\x@1\"", "\"\\x1@\"", "/@/", "/\\@/", "/\\@", "/\\\\@/", "\"a\"@", "/a/@"} {
			sameCut(t, strings.ReplaceAll(frame, "@", c))
		}
	}
}

// 8.1: all short texts of the bytes that mean something.
func TestCutAllShort(t *testing.T) {
	for _, text := range stringsOf("\"\\/#\nx4; &", 5) {
		sameCut(t, text)
	}
	for _, text := range stringsOf("\"\\x4F\n", 6) {
		sameCut(t, "\""+text)
	}
	for _, text := range stringsOf("/\\\na", 7) {
		sameCut(t, "/"+text)
	}
}

func TestCutRandom(t *testing.T) {
	r := rand.New(rand.NewSource(81))
	seen := map[string]int{}
	kinds := map[api.Errno]string{api.OK: "fine", api.ErrByte: "byte", api.ErrName: "name", api.ErrNumber: "number", api.ErrString: "string"}
	for i := range 40000 {
		text := randomText(r, 12)
		switch i % 4 {
		case 0:
			text = anyBytes(r, 30)
		case 1:
			text += strings.Repeat("n", 18) + randomOf(r, "n9_", 12) + randomText(r, 3)
		}
		seen[kinds[sameCut(t, text).code]]++
	}
	enough(t, seen, 500, "fine", "byte", "name", "number", "string")
}

// 8.1: a text of MaxDefn bytes is cut in one go.
func BenchmarkCut(b *testing.B) {
	text := strings.Repeat("rule s = a* ; # the end\ntoken A /[a-z]+/ in \"x\\n\", 12;\n", api.MaxDefn/58)
	b.SetBytes(int64(len(text)))
	for b.Loop() {
		words.Cut(text)
	}
}
