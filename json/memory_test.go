package json_test

import (
	"math/rand"
	"slices"
	"strconv"
	"strings"
	"testing"
	"time"
	"unsafe"

	"trellis/api"
	"trellis/json"
)

// lent: a text whose bytes the test may write over, as nobody else does.
func lent(s string) (string, func()) {
	b := []byte(s)
	return unsafe.String(unsafe.SliceData(b), len(b)), func() { filled(b, '#') }
}

// lentValue: a value in memory of its own, with spare room, and what writes over all of it.
func lentValue(v []api.JNode) ([]api.JNode, func()) {
	out := append(make([]api.JNode, 0, len(v)+3), v...)
	filled(out[len(v):], api.JNode{Kind: api.JTrue, Key: "spare"})
	var spoils []func()
	for i, n := range v {
		var key, text func()
		out[i].Key, key = lent(n.Key)
		out[i].Text, text = lent(n.Text)
		spoils = append(spoils, key, text)
	}
	return out, func() {
		for _, spoil := range spoils {
			spoil()
		}
		filled(out, api.JNode{Kind: api.JList, Kids: 9})
	}
}

// filled: all of the list's room is written into.
func filled[T any](l []T, x T) {
	l = l[:cap(l)]
	for i := range l {
		l[i] = x
	}
}

// deep: a value whose texts are in memory of their own.
func deep(v []api.JNode) []api.JNode {
	out := slices.Clone(v)
	for i := range out {
		out[i].Key, out[i].Text = strings.Clone(out[i].Key), strings.Clone(out[i].Text)
	}
	return out
}

// P2, P3: Parse keeps nothing of the text, and what it answers is nobody else's.
func TestParseMemory(t *testing.T) {
	r := rand.New(rand.NewSource(2520))
	for i := range 5000 {
		text := loose(r, anyValue(r, "", 3))
		if i%2 == 0 {
			text = spoilt(r, text)
		}
		want := plainParse(text)
		mine, spoil := lent(text)
		got, again := parse(mine), parse(mine)
		if mine != text {
			t.Fatalf("P2: Parse(%q) has changed its text", text)
		}
		kept := deep(got.value)
		spoil()
		if !got.alike(want) || !again.alike(want) || !slices.Equal(kept, got.value) {
			t.Fatalf("P2: Parse(%q): behind writing into it %+v, %+v, want %+v", text, got, again, want)
		}
		filled(got.value, api.JNode{Kind: api.JObject, Key: "wiped", Kids: -1})
		if !again.alike(want) || !parse(text).alike(want) {
			t.Fatalf("P2, P3: Parse(%q): then %+v, want %+v", text, again, want)
		}
	}
}

// P2, P3: the other calls change nothing, and what they answer stays.
func TestValueMemory(t *testing.T) {
	r := rand.New(rand.NewSource(2521))
	for i := range 5000 {
		v := anyValue(r, "", 3)
		if i%4 == 0 {
			v = spoiltValue(r, v)
		}
		mine, spoil := lentValue(v)
		before := deep(mine[:cap(mine)])
		text, code := json.Print(mine)
		again, _ := json.Print(mine)
		shaped, member := json.Shaped(mine), json.Member(mine, 0, "a")
		n, ok := json.Int(mine, len(mine)-1)
		if !slices.Equal(mine[:cap(mine)], before) {
			t.Fatalf("P2: %+v has been changed: %+v", v, mine)
		}
		spoil()
		if want, wanted := json.Print(v); text != want || again != want || code != wanted {
			t.Fatalf("P2: Print(%+v): behind writing into it %q, %q, %d, want %q, %d", v, text, again, code, want, wanted)
		}
		if m, is := json.Int(v, len(v)-1); shaped != json.Shaped(v) || member != json.Member(v, 0, "a") || n != m || ok != is {
			t.Fatalf("P3: %+v: %v, %d, %d, %v", v, shaped, member, n, ok)
		}
	}
}

// soon: fails if a call takes long.
func soon(t *testing.T, name string, call func()) {
	t.Helper()
	done := make(chan bool)
	go func() { defer close(done); call() }()
	select {
	case <-done:
	case <-time.After(time.Minute):
		t.Fatalf("P1: %s: no end", name)
	}
}

// P1: long texts of all kinds.
func TestHuge(t *testing.T) {
	const n = 1 << 18
	var keys, same strings.Builder
	for i := range n {
		keys.WriteString(`"k` + strconv.Itoa(i) + `":[],`)
		same.WriteString(`{"k":{"k":1}},`)
	}
	for name, text := range map[string]string{
		"a list":    "[" + strings.Repeat("[],", n) + "0]",
		"an object": "{" + keys.String() + `"last":0}`,
		"objects":   "[" + same.String() + "{}]",
		"a string":  `"` + strings.Repeat(`\ud83d\ude00\n\"aé`, n) + `"`,
		"a number":  "-1" + strings.Repeat("0", 16*n) + "." + strings.Repeat("7", n) + "e" + strings.Repeat("9", n),
		"blanks":    strings.Repeat(" \n\t\r", 4*n) + "{" + strings.Repeat(" ", n) + "}" + strings.Repeat("\n", n),
		"a tower":   strings.Repeat(`{"a":[`, 32) + strings.Repeat("1,", n) + "2" + strings.Repeat("]}", 32),
	} {
		soon(t, name, func() {
			got := parse(text)
			if got.code != api.OK || got.place != 0 || !json.Shaped(got.value) {
				t.Errorf("25.1: %s: %d at %d", name, got.code, got.place)
				return
			}
			if printed := back(t, got.value); len(printed) > len(text) {
				t.Errorf("25.6: %s: %d bytes of %d", name, len(printed), len(text))
			}
			if json.Member(got.value, 0, "last") >= 0 != (name == "an object") {
				t.Errorf("25.4: %s: %d", name, json.Member(got.value, 0, "last"))
			}
			if m, ok := json.Int(got.value, len(got.value)-1); ok && m > 2 {
				t.Errorf("25.5: %s: %d", name, m)
			}
		})
		if got := parse(text + "x"); !got.alike(answer{nil, api.ErrJson, len(text)}) {
			t.Errorf("25.1: %s and an x: %d at %d", name, got.code, got.place)
		}
	}
}

// P1: texts of any bytes, lists of any numbers.
func TestAnything(t *testing.T) {
	r := rand.New(rand.NewSource(2522))
	for range 20000 {
		b := make([]byte, r.Intn(12))
		r.Read(b)
		sameParse(t, string(b))
		sameParse(t, `"`+string(b))
		var v []api.JNode
		for range r.Intn(5) {
			v = append(v, api.JNode{Kind: api.JKind(r.Intn(10) - 1), Key: pick(r, "", "k", "\xff"), Text: pick(r, "", "0", "-"), Kids: pick(r, 0, 1, 2, -1, r.Int(), -r.Int())})
		}
		sameShape(t, v)
		sameAsks(t, v)
	}
	row := make([]api.JNode, 1<<20)
	filled(row, many(api.JList, 1<<62))
	soon(t, "lists that hold too many", func() {
		if json.Shaped(row) || json.Shaped(row[:64]) {
			t.Error("25.3: lists that hold too many")
		}
	})
	filled(row, many(api.JList, 1))
	soon(t, "a deep list", func() {
		if json.Shaped(row) {
			t.Error("25.3: a list in a million others")
		}
	})
}
