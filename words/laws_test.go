package words_test

import (
	"math/rand"
	"slices"
	"strings"
	"testing"
	"unsafe"

	"trellis/api"
	"trellis/words"
)

// bare: the words without their places.
func bare(l []api.Word) []api.Word {
	out := slices.Clone(l)
	for i := range out {
		out[i].At = 0
	}
	return out
}

// moved: the words with their places moved.
func moved(l []api.Word, by int) []api.Word {
	out := slices.Clone(l)
	for i := range out {
		out[i].At += by
	}
	return out
}

// back: 8.4 of sound words without a place and without anything that their kinds do not use.
func back(t *testing.T, l []api.Word) {
	t.Helper()
	want, at := slices.Clone(l), 0
	for i, w := range l {
		want[i].At = at
		at += len(words.Spell(w)) + 1
	}
	text := words.Join(l)
	if got := cut(text); !got.alike(answer{words: want}) {
		t.Fatalf("8.4: Cut(%q) = %+v, want %+v", text, got, want)
	}
}

// 8.4: each kind next to each, and random lists.
func TestBack(t *testing.T) {
	var kinds []api.Word
	for _, s := range strings.Split("{}()|*+?:;,=@", "") {
		kinds = append(kinds, word(api.WordSign, s, 0))
	}
	for _, s := range []string{"a", "_", strings.Repeat("n", 24)} {
		kinds = append(kinds, word(api.WordName, s, 0))
	}
	for _, s := range []string{"", "\"", "\\", "#", "/", "a b", "\n", "\x00\xff"} {
		kinds = append(kinds, word(api.WordString, s, 0))
	}
	for _, s := range []string{"", "#", `\/`, `\\`, "\"", "a b"} {
		kinds = append(kinds, word(api.WordRegex, s, 0))
	}
	kinds = append(kinds, number(0, 0), number(12, 0), number(65535, 0))
	for _, a := range kinds {
		for _, b := range kinds {
			back(t, []api.Word{a, b})
		}
	}
	r := rand.New(rand.NewSource(84))
	for range 20000 {
		var l []api.Word
		for range r.Intn(9) {
			l = append(l, randomSound(r))
		}
		back(t, l)
	}
	for b := range 256 { // every byte of a string
		back(t, []api.Word{word(api.WordString, string([]byte{byte(b)}), 0)})
	}
	back(t, []api.Word{word(api.WordString, strings.Repeat("a", api.MaxDefn-2), 0)})
	back(t, []api.Word{word(api.WordRegex, strings.Repeat("a", api.MaxDefn-2), 0)})
}

// 8.5: of every text that is cut, Join of its words is a text that has these words, and is its own.
func TestCanonical(t *testing.T) {
	r := rand.New(rand.NewSource(85))
	texts := stringsOf("\"\\/#\na1; ", 4)
	for range 20000 {
		texts = append(texts, randomText(r, 8))
	}
	met := 0
	for _, text := range texts {
		first := cut(text)
		if first.code != api.OK {
			continue
		}
		met++
		joined := words.Join(first.words)
		second := cut(joined)
		if second.code != api.OK || second.place != 0 || !slices.Equal(bare(first.words), bare(second.words)) {
			t.Fatalf("8.5: Cut(%q) = %+v, but Cut(%q) = %+v", text, first, joined, second)
		}
		if again := words.Join(second.words); again != joined {
			t.Fatalf("8.5: %q: joined %q, and again %q", text, joined, again)
		}
	}
	if met < 5000 {
		t.Errorf("8.5: %d texts", met)
	}
}

// 8.6: a line end parts two texts, whatever they end and begin with.
func TestWordsStandAlone(t *testing.T) {
	r := rand.New(rand.NewSource(86))
	var fine []string
	for _, text := range stringsOf("\"\\/#\na1; ", 3) {
		if cut(text).code == api.OK {
			fine = append(fine, text)
		}
	}
	for len(fine) < 500 {
		if text := randomText(r, 6); cut(text).code == api.OK {
			fine = append(fine, text)
		}
	}
	for _, a := range fine {
		first := cut(a).words
		for _, b := range fine {
			want := append(slices.Clone(first), moved(cut(b).words, len(a)+1)...)
			if got := cut(a + "\n" + b); !got.alike(answer{words: want}) {
				t.Fatalf("8.6: Cut of %q, a line end and %q = %+v, want %+v", a, b, got, want)
			}
		}
	}
}

// P2: Join does not change what it is handed, its spare room too; what is handed out is no piece of what was handed in.
func TestHandedInAndOut(t *testing.T) {
	r := rand.New(rand.NewSource(87))
	for range 2000 {
		room := make([]api.Word, 8)
		for i := range room {
			room[i] = oddWord(r)
		}
		was := slices.Clone(room)
		words.Join(room[:r.Intn(8)])
		if !slices.Equal(room, was) {
			t.Fatalf("P2: Join has changed %+v to %+v", was, room)
		}
	}
	text := strings.Repeat("name /re/ \"st\" ; 12 ", 3)
	for _, w := range cut(text).words {
		apart(t, "Cut", text, w.Text)
	}
	for _, w := range cut(text).words {
		apart(t, "Spell", w.Text, words.Spell(w))
	}
	one := cut("name").words
	apart(t, "Join", one[0].Text, words.Join(one))
}

// apart: the two texts share no memory.
func apart(t *testing.T, call, in, out string) {
	t.Helper()
	if len(in) == 0 || len(out) == 0 {
		return
	}
	a, b := uintptr(unsafe.Pointer(unsafe.StringData(in))), uintptr(unsafe.Pointer(unsafe.StringData(out)))
	if b < a+uintptr(len(in)) && a < b+uintptr(len(out)) {
		t.Errorf("P2: %s: %q is a piece of %q", call, out, in)
	}
}

// P2, P3: two answers share no list, and are the same, whatever was written into the first.
func TestAnswersOfTheirOwn(t *testing.T) {
	r := rand.New(rand.NewSource(88))
	for range 2000 {
		text := randomText(r, 9)
		first := cut(text)
		want := answer{slices.Clone(first.words), first.code, first.place}
		second := cut(text)
		spare := first.words[:cap(first.words)]
		for i := range spare {
			spare[i] = oddWord(r)
		}
		if third := cut(text); !second.alike(want) || !third.alike(want) {
			t.Fatalf("P3: Cut(%q) = %+v, then %+v and %+v", text, want, second, third)
		}
	}
}

// P1: a list of many words, and of odd ones.
func TestManyWords(t *testing.T) {
	l := slices.Repeat([]api.Word{word(api.WordSign, ";", 0)}, 200000)
	if got := words.Join(l); got != strings.Repeat("; ", len(l)-1)+";" {
		t.Errorf("8.3: Join of %d words has %d bytes", len(l), len(got))
	}
	if got := words.Join(append(l, api.Word{})); got != "" {
		t.Errorf("8.3: Join of many words and an odd one has %d bytes", len(got))
	}
}
