package words_test

import (
	"math"
	"math/rand"
	"strings"
	"testing"

	"trellis/api"
	"trellis/words"
)

// sameSpell: 8.2 of a word, sound or not; it tells whether it is.
func sameSpell(t *testing.T, w api.Word) bool {
	t.Helper()
	want, ok := plainSpell(w)
	if !ok {
		want = ""
	}
	if got := words.Spell(w); got != want {
		t.Fatalf("8.2: Spell(%+v) = %q, want %q", w, got, want)
	}
	return ok
}

// 8.2: the chapter's examples, and each limit.
func TestSpell(t *testing.T) {
	const nm, st, re, nr, sg = api.WordName, api.WordString, api.WordRegex, api.WordNumber, api.WordSign
	most := strings.Repeat("n", 24)
	for _, c := range []struct {
		w    api.Word
		want string
	}{
		{word(st, "\x00\"\xff", 0), `"\x00\"\xff"`}, {word(nm, "a-b", 0), ""}, {word(sg, "&", 0), ""}, {number(-1, 0), ""}, {word(re, "a/b", 0), ""},
		{word(nm, "a", 0), "a"}, {word(nm, "_", 0), "_"}, {word(nm, "Z_9", 0), "Z_9"}, {word(nm, most, 0), most}, {word(nm, most+"n", 0), ""}, {word(nm, "", 0), ""}, {word(nm, "9", 0), ""}, {word(nm, "9a", 0), ""}, {word(nm, " a", 0), ""}, {word(nm, "a ", 0), ""}, {word(nm, "a#", 0), ""}, {word(nm, "aé", 0), ""}, {word(nm, "a\x00", 0), ""},
		{word(st, "", 0), `""`}, {word(st, "\n\t\r\\\"", 0), `"\n\t\r\\\""`}, {word(st, " ~", 0), `" ~"`}, {word(st, "\x1f\x7f\x80\x0b", 0), `"\x1f\x7f\x80\x0b"`}, {word(st, "é/#'", 0), `"\xc3\xa9/#'"`}, {word(st, `\x41`, 0), `"\\x41"`},
		{word(re, "", 0), "//"}, {word(re, `\/`, 0), `/\//`}, {word(re, `\\`, 0), `/\\/`}, {word(re, `\`, 0), ""}, {word(re, `\\\`, 0), ""}, {word(re, `\\/`, 0), ""}, {word(re, "/", 0), ""}, {word(re, "\n", 0), ""}, {word(re, "\\\n", 0), ""}, {word(re, "a/ /b", 0), ""}, {word(re, "a/#b", 0), ""}, {word(re, "\r\x00\xff\"#", 0), "/\r\x00\xff\"#/"},
		{number(0, 0), "0"}, {number(65535, 0), "65535"}, {number(65536, 0), ""}, {number(math.MaxInt, 0), ""}, {number(math.MinInt, 0), ""},
		{word(sg, "", 0), ""}, {word(sg, "()", 0), ""}, {word(sg, "{}", 0), ""}, {word(sg, "/", 0), ""}, {word(sg, "a", 0), ""}, {word(sg, "\xff", 0), ""}, {word(sg, "\"", 0), ""},
		{api.Word{}, ""}, {word(-1, "a", 0), ""}, {word(6, "a", 0), ""}, {word(math.MaxInt, "a", 0), ""}, {word(math.MinInt, "a", 0), ""},
		// what a kind does not use does not count
		{api.Word{Kind: nm, Text: "a", N: -5, At: -7}, "a"}, {api.Word{Kind: nr, Text: "a-b\n", N: 7, At: math.MinInt}, "7"}, {api.Word{Kind: sg, Text: ";", N: 1 << 40, At: math.MaxInt}, ";"}, {api.Word{Kind: st, Text: "a", N: -1}, `"a"`}, {api.Word{Kind: re, Text: "a", N: -1}, "/a/"},
	} {
		sameSpell(t, c.w)
		if got := words.Spell(c.w); got != c.want {
			t.Errorf("8.2: Spell(%+v) = %q, want %q", c.w, got, c.want)
		}
	}
}

// 8.2: a sound word may be longer than a definition.
func TestSpellLong(t *testing.T) {
	long := strings.Repeat("ab", api.MaxDefn)
	if got := words.Spell(word(api.WordRegex, long, 0)); got != "/"+long+"/" {
		t.Errorf("8.2: a long regex: %d bytes", len(got))
	}
	if got := words.Spell(word(api.WordString, long, 0)); got != `"`+long+`"` {
		t.Errorf("8.2: a long string: %d bytes", len(got))
	}
	for _, w := range []api.Word{word(api.WordName, long, 0), word(api.WordSign, long, 0), word(api.WordRegex, long+`\`, 0), word(api.WordRegex, long+"/"+long, 0)} {
		if got := words.Spell(w); got != "" {
			t.Errorf("8.2: a long word of the kind %d that is not sound: %d bytes", w.Kind, len(got))
		}
	}
}

// 8.2: every byte, alone and at every place of a short text, and all short texts.
func TestSpellAll(t *testing.T) {
	for kind := api.WordKind(0); kind <= 6; kind++ {
		for b := range 256 {
			c := string([]byte{byte(b)})
			for _, text := range []string{c, "a" + c, c + "a", `\` + c, `\\` + c, c + c, "a" + c + "a"} {
				sameSpell(t, word(kind, text, 0))
			}
		}
		for _, text := range stringsOf("\"\\/\na9;", 4) {
			sameSpell(t, word(kind, text, 0))
		}
	}
	for n := -3; n < 65540; n++ {
		sameSpell(t, number(n, 0))
	}
}

// 8.3: words one behind the other; nothing at all, if one of them is not sound.
func TestJoin(t *testing.T) {
	a, semi, odd := word(api.WordName, "a", 3), word(api.WordSign, ";", 1), word(api.WordSign, "&", 0)
	for _, c := range []struct {
		l    []api.Word
		want string
	}{
		{nil, ""}, {[]api.Word{}, ""}, {[]api.Word{a}, "a"}, {[]api.Word{a, a}, "a a"}, {[]api.Word{semi, semi, a}, "; ; a"}, {[]api.Word{number(7, 0), a, word(api.WordString, "", 0), word(api.WordRegex, "", 0)}, `7 a "" //`},
		{[]api.Word{odd}, ""}, {[]api.Word{odd, a}, ""}, {[]api.Word{a, odd}, ""}, {[]api.Word{a, odd, a}, ""}, {[]api.Word{{}}, ""}, {[]api.Word{a, {}, a}, ""},
	} {
		if got := words.Join(c.l); got != c.want {
			t.Errorf("8.3: Join(%+v) = %q, want %q", c.l, got, c.want)
		}
	}
}

func TestSpellJoinRandom(t *testing.T) {
	r := rand.New(rand.NewSource(82))
	seen := map[string]int{}
	for range 30000 {
		var l []api.Word
		var parts []string
		all := true
		for range r.Intn(5) {
			w := randomSound(r)
			if r.Intn(4) == 0 {
				w = oddWord(r)
			}
			all = sameSpell(t, w) && all
			l, parts = append(l, w), append(parts, words.Spell(w))
		}
		want := strings.Join(parts, " ")
		if !all {
			want = ""
			seen["not sound"]++
		} else if len(l) > 1 {
			seen["sound"]++
		}
		if got := words.Join(l); got != want {
			t.Fatalf("8.3: Join(%+v) = %q, want %q", l, got, want)
		}
	}
	enough(t, seen, 2000, "sound", "not sound")
}
