package json_test

import (
	"math/rand"
	"slices"
	"strings"
	"testing"

	"trellis/api"
	"trellis/json"
)

// back: 25.6 of a well shaped value: its text says it again.
func back(t *testing.T, v []api.JNode) string {
	t.Helper()
	text, code := json.Print(v)
	if got := parse(text); code != api.OK || !got.alike(answer{value: v}) {
		t.Fatalf("25.6: Parse(%.300q) = %.300v, want %.300v", text, got, v)
	}
	return text
}

// taken: 25.6 of a text that Parse takes.
func taken(t *testing.T, text string) {
	t.Helper()
	got := parse(text)
	if got.code != api.OK {
		t.Fatalf("25.6: Parse(%.300q): %d at %d", text, got.code, got.place)
	}
	if !json.Shaped(got.value) {
		t.Fatalf("25.6: Parse(%.300q) = %.300v, which is not well shaped", text, got.value)
	}
	if printed := back(t, got.value); len(printed) > len(text) {
		t.Fatalf("25.6: of %.300q the print is longer: %.300q", text, printed)
	}
}

// 25.6: of random values, and of other texts that say them.
func TestBack(t *testing.T) {
	r := rand.New(rand.NewSource(256))
	longer := 0
	for range 20000 {
		v := anyValue(r, "", 4)
		text := back(t, v)
		other := loose(r, v)
		taken(t, other)
		if len(other) > len(text) {
			longer++
		}
	}
	if longer < 10000 {
		t.Errorf("only %d texts are longer than the print", longer)
	}
}

// 25.2: no shorter text says the same: all texts up to a length, by what they say.
func TestShortest(t *testing.T) {
	least := map[string]string{}
	n := 0
	var all func(text string, left int)
	all = func(text string, left int) {
		got := parse(text)
		if got.code == api.OK {
			printed := back(t, got.value)
			if old, ok := least[printed]; !ok || len(text) < len(old) {
				least[printed] = text
			}
			n++
		}
		if left == 0 || got.code != api.OK && got.place < len(text) {
			return
		}
		for _, b := range []byte("{}[]\",:\\nu0 /\x7f") {
			all(text+string(b), left-1)
		}
	}
	all("", 7)
	all(`"\u00`, 4)
	for printed, text := range least {
		if len(text) < len(printed) {
			t.Errorf("25.2: %q is shorter than %q", text, printed)
		}
	}
	if n < 2000 || len(least) < 500 {
		t.Errorf("only %d texts of %d values", n, len(least))
	}
}

// 25.1: the first error stays the first one, whatever stands behind it; and what is ahead of it can be gone on with.
func TestFirstError(t *testing.T) {
	r := rand.New(rand.NewSource(2561))
	refused := 0
	for range 20000 {
		text := spoilt(r, loose(r, anyValue(r, "", 3)))
		got := parse(text)
		if got.code == api.OK || got.place == len(text) {
			continue
		}
		refused++
		for _, more := range []string{"\"", "]", "}", spoilt(r, text)} {
			if again := parse(text + more); !again.alike(got) {
				t.Fatalf("25.1: Parse(%q) = %+v, with %q behind it %+v", text, got, more, again)
			}
		}
		if ahead := parse(text[:got.place]); ahead.code != api.OK && ahead.place < got.place {
			t.Fatalf("25.1: Parse(%q) = %+v, of what is ahead of it %+v", text, got, ahead)
		}
	}
	if refused < 5000 {
		t.Errorf("only %d texts are refused", refused)
	}
}

// 25.6: each piece of a text that Parse takes and that is a value is told as it is told alone.
func TestPieces(t *testing.T) {
	r := rand.New(rand.NewSource(2562))
	for range 3000 {
		a, b := anyValue(r, "", 3), anyValue(r, "", 3)
		one, two := loose(r, a), loose(r, b)
		want := slices.Concat([]api.JNode{many(api.JList, 3)}, a, b, a)
		if got := parse("[" + one + "," + two + "," + one + "]"); !got.alike(answer{value: want}) {
			t.Fatalf("25.1: of %q and %q: %+v, want %+v", one, two, got, want)
		}
		a[0].Key, b[0].Key = "a", ""
		want = slices.Concat([]api.JNode{many(api.JObject, 2)}, a, b)
		if got := parse(`{"a":` + one + `,"":` + strings.TrimSpace(two) + "}"); !got.alike(answer{value: want}) {
			t.Fatalf("25.1: of %q and %q: %+v, want %+v", one, two, got, want)
		}
	}
}
