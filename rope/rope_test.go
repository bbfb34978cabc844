package rope_test

import (
	"math"
	"math/bits"
	"math/rand"
	"strings"
	"testing"
	"unsafe"

	"trellis/api"
	"trellis/rope"
)

// numbers: what a call may be handed as a place or a count of a text of n bytes.
func numbers(n int) []int {
	return []int{math.MinInt, math.MinInt + 1, -1 << 32, -n - 1, -n, -2, -1, 0, 1, 2, n / 2, n - 2, n - 1, n, n + 1, 2 * n, api.MaxText, api.MaxText + 1, 1 << 32, math.MaxInt - 1, math.MaxInt}
}

func clamp(n, most int) int {
	switch {
	case n < 0:
		return 0
	case n > most:
		return most
	}
	return n
}

func after(text string, e api.Edit) string {
	at := clamp(e.At, len(text))
	del := clamp(e.Del, len(text)-at)
	return text[:at] + e.Ins + text[at+del:]
}

// long: a text of n bytes, all kinds of bytes, without a short period.
func long(n int) string {
	b := make([]byte, n)
	rand.New(rand.NewSource(int64(n))).Read(b)
	return string(b)
}

func open(t *testing.T, text string) *rope.Rope {
	t.Helper()
	r := rope.New(text)
	if r == nil {
		t.Fatalf("1.1: New of %d bytes is nil", len(text))
	}
	return r
}

func splice(t *testing.T, r *rope.Rope, e api.Edit) *rope.Rope {
	t.Helper()
	s, code := r.Splice(e)
	if code != api.OK || s == nil {
		t.Fatalf("1.3: Splice(%d, %d, %d bytes) refuses with %d", e.At, e.Del, len(e.Ins), code)
	}
	return s
}

func checkDepth(t *testing.T, r *rope.Rope) {
	t.Helper()
	if d, most := r.Depth(), 2+2*bits.Len(uint(r.Len())); d < 1 || d > most {
		t.Fatalf("1.4: %d bytes have %d levels, at most %d", r.Len(), d, most)
	}
}

func checkText(t *testing.T, r *rope.Rope, want string) {
	t.Helper()
	if r.Len() != len(want) || r.String() != want {
		t.Fatalf("the text has %d bytes, or others than those %d that it should have", r.Len(), len(want))
	}
	checkDepth(t, r)
}

// checkAll holds all that a rope answers, but for Depth, against its text.
func checkAll(t *testing.T, r *rope.Rope, want string) {
	t.Helper()
	checkText(t, r, want)
	places := numbers(len(want))
	for _, at := range places {
		x, ok := r.Byte(at)
		if at < 0 || at >= len(want) {
			if x != 0 || ok {
				t.Fatalf("1.2: Byte(%d) of %d bytes = %d, %v", at, len(want), x, ok)
			}
		} else if x != want[at] || !ok {
			t.Fatalf("1.2: Byte(%d) = %d, %v, want %d", at, x, ok, want[at])
		}
		for _, n := range places {
			from := clamp(at, len(want))
			if got := r.Slice(at, n); got != want[from:from+clamp(n, len(want)-from)] {
				t.Fatalf("1.2: Slice(%d, %d) of %d bytes has %d", at, n, len(want), len(got))
			}
		}
		c := r.Cursor(at)
		if from := clamp(at, len(want)); c.At() != from || c.Far() != from {
			t.Fatalf("1.5: Cursor(%d) stands at %d, has looked up to %d", at, c.At(), c.Far())
		}
	}
	checkRead(t, r, want)
}

func checkRead(t *testing.T, r *rope.Rope, want string) {
	t.Helper()
	c := r.Cursor(0)
	for i := range len(want) {
		if x, ok := c.Next(); x != want[i] || !ok || c.At() != i+1 || c.Far() != i+1 {
			t.Fatalf("1.8: Next at %d = %d, %v", i, x, ok)
		}
	}
	if x, ok := c.Next(); x != 0 || ok || c.At() != len(want) || c.Far() != len(want)+1 {
		t.Fatalf("1.5: Next at the end = %d, %v; at %d, far %d", x, ok, c.At(), c.Far())
	}
	for i := len(want) - 1; i >= 0; i-- {
		if !c.Back() || c.At() != i || c.Far() != len(want)+1 {
			t.Fatalf("1.5: Back to %d: at %d, far %d", i, c.At(), c.Far())
		}
	}
	if c.Back() || c.At() != 0 {
		t.Fatalf("1.5: Back at 0: at %d", c.At())
	}
}

func TestNew(t *testing.T) {
	every := make([]byte, 256)
	for i := range every {
		every[i] = byte(i)
	}
	for _, text := range []string{"", "x", "hello world", "\x00", "\n\r\n", "gr\u00fc\u00dfe \U0001f33f", "\xff\xfe\x80", string(every), long(1023), long(1024), long(1025), long(5000)} {
		checkAll(t, open(t, text), text)
	}
}

func TestNewAtTheLimit(t *testing.T) {
	full := long(api.MaxText)
	checkText(t, open(t, full), full)
	checkText(t, open(t, full[1:]), full[1:])
	for _, text := range []string{full + "x", full + full} {
		if rope.New(text) != nil {
			t.Errorf("1.1: New of %d bytes is not nil", len(text))
		}
	}
}

func TestExamples(t *testing.T) {
	r := open(t, "hello world")
	if r.Len() != 11 || r.Depth() < 1 || r.Depth() > 10 {
		t.Errorf("1.2, 1.4: Len %d, Depth %d", r.Len(), r.Depth())
	}
	for _, c := range []struct {
		at, n int
		want  string
	}{{6, 99, "world"}, {-3, 5, "hello"}, {20, 1, ""}, {4, -1, ""}} {
		if got := r.Slice(c.at, c.n); got != c.want {
			t.Errorf("1.2: Slice(%d, %d) = %q, want %q", c.at, c.n, got, c.want)
		}
	}
	for _, c := range []struct {
		at   int
		want byte
		ok   bool
	}{{4, 'o', true}, {11, 0, false}, {-1, 0, false}} {
		if x, ok := r.Byte(c.at); x != c.want || ok != c.ok {
			t.Errorf("1.2: Byte(%d) = %d, %v", c.at, x, ok)
		}
	}
	for _, c := range []struct {
		e    api.Edit
		want string
	}{
		{api.Edit{At: 5, Del: 1, Ins: ", "}, "hello, world"},
		{api.Edit{At: -7, Del: 99, Ins: "x"}, "x"},
		{api.Edit{At: 99, Del: 5, Ins: "!"}, "hello world!"},
		{api.Edit{Del: 11}, ""},
		{api.Edit{}, "hello world"},
	} {
		checkAll(t, splice(t, r, c.e), c.want)
	}
	if s, code := r.Splice(api.Edit{Ins: strings.Repeat("x", 1<<20-10)}); s != nil || code != api.ErrBig {
		t.Errorf("1.3: %v, %d", s, code)
	}
	checkAll(t, r, "hello world")
}

func TestSpliceIsClamped(t *testing.T) {
	for _, text := range []string{"", "x", "hello", long(3000)} {
		r := open(t, text)
		for _, at := range numbers(len(text)) {
			for _, del := range numbers(len(text)) {
				for _, ins := range []string{"", "yz"} {
					e := api.Edit{At: at, Del: del, Ins: ins}
					checkText(t, splice(t, r, e), after(text, e))
				}
			}
		}
		checkText(t, r, text)
	}
}

func TestSpliceAtTheLimit(t *testing.T) {
	full := long(api.MaxText)
	r, empty := open(t, full), open(t, "")
	for _, c := range []struct {
		r *rope.Rope
		e api.Edit
	}{
		{r, api.Edit{Ins: "x"}},
		{r, api.Edit{At: math.MaxInt, Del: math.MaxInt, Ins: "x"}},
		{r, api.Edit{At: math.MinInt, Del: math.MinInt, Ins: "x"}},
		{r, api.Edit{At: 9, Del: 2, Ins: "xyz"}},
		{r, api.Edit{At: api.MaxText - 1, Del: 9, Ins: "xy"}},
		{r, api.Edit{Del: api.MaxText, Ins: full + "x"}},
		{r, api.Edit{At: 1, Del: math.MaxInt, Ins: full}},
		{r, api.Edit{Ins: full + full + full}},
		{empty, api.Edit{Ins: full + "x"}},
		{empty, api.Edit{At: math.MaxInt, Del: math.MaxInt, Ins: full + full}},
	} {
		if s, code := c.r.Splice(c.e); s != nil || code != api.ErrBig {
			t.Errorf("1.3, P4: Splice(%d, %d, %d bytes): %v, %d", c.e.At, c.e.Del, len(c.e.Ins), s != nil, code)
		}
	}
	checkText(t, r, full)
	checkText(t, empty, "")
	for _, e := range []api.Edit{
		{At: 9, Del: 3, Ins: "xyz"},
		{At: api.MaxText, Del: 5},
		{Del: math.MaxInt, Ins: full[7:] + full[:7]},
		{At: api.MaxText - 1, Del: 9, Ins: "x"},
	} {
		checkText(t, splice(t, r, e), after(full, e))
	}
	checkText(t, splice(t, empty, api.Edit{At: 4, Ins: full}), full)
}

func TestDepth(t *testing.T) {
	if d := open(t, "").Depth(); d != 1 && d != 2 {
		t.Errorf("1.4: the empty text has %d levels", d)
	}
	full := long(api.MaxText)
	for n := 1; n <= api.MaxText; n += n/3 + 1 {
		checkDepth(t, open(t, full[:n]))
	}
}

// grown: a rope that many small edits have made, each checked for its depth.
func grown(t *testing.T, times int, edit func(i, n int) api.Edit) {
	t.Helper()
	r, text := open(t, ""), []byte(nil)
	for i := range times {
		e := edit(i, len(text))
		r = splice(t, r, e)
		text = append(text[:e.At], append([]byte(e.Ins), text[e.At+e.Del:]...)...)
		checkDepth(t, r)
	}
	checkText(t, r, string(text))
	for r.Len() > 0 {
		n := r.Len()
		e := api.Edit{At: n / 3, Del: 1 + n/7}
		r = splice(t, r, e)
		text = append(text[:e.At], text[e.At+e.Del:]...)
		checkText(t, r, string(text))
	}
}

func TestDepthBehindManyEdits(t *testing.T) {
	random := rand.New(rand.NewSource(14))
	ways := map[string]func(i, n int) api.Edit{
		"at the end":         func(i, n int) api.Edit { return api.Edit{At: n, Ins: string(rune('a' + i%26))} },
		"at the beginning":   func(i, n int) api.Edit { return api.Edit{Ins: string(rune('a' + i%26))} },
		"in the middle":      func(i, n int) api.Edit { return api.Edit{At: n / 2, Ins: string(rune('a' + i%26))} },
		"at both ends":       func(i, n int) api.Edit { return api.Edit{At: i % 2 * n, Ins: "ab"} },
		"long and short":     func(i, n int) api.Edit { return api.Edit{At: n / 3, Ins: long(i % 40 * (i % 7))} },
		"anywhere":           func(i, n int) api.Edit { return api.Edit{At: random.Intn(n + 1), Ins: "xyz"} },
		"at the end, longer": func(i, n int) api.Edit { return api.Edit{At: n, Ins: long(i % 300)} },
		"back and forth": func(i, n int) api.Edit {
			if i%3 == 2 {
				return api.Edit{At: n / 5, Del: n / 9}
			}
			return api.Edit{At: n / 2, Ins: long(1100)}
		},
	}
	for name, edit := range ways {
		t.Run(name, func(t *testing.T) { grown(t, 3000, edit) })
	}
}

// TestDepthOfRemains: of a long text only a byte here and there is left, so that the bound comes down to the few bytes.
func TestDepthOfRemains(t *testing.T) {
	for _, step := range []int{600, 1024, 2500, 40000} {
		text := long(300000)
		r := open(t, text)
		for at := 1; at < r.Len(); at++ {
			e := api.Edit{At: at, Del: step}
			r, text = splice(t, r, e), after(text, e)
			checkDepth(t, r)
		}
		checkAll(t, r, text)
		for r.Len() > 0 {
			e := api.Edit{At: r.Len() / 2, Del: 1}
			r, text = splice(t, r, e), after(text, e)
			checkText(t, r, text)
		}
	}
}

func TestCursorExamples(t *testing.T) {
	c := open(t, "hello world").Cursor(9)
	if c.At() != 9 || c.Far() != 9 {
		t.Errorf("1.5: at %d, far %d", c.At(), c.Far())
	}
	next := func(want byte, ok bool, at, far int) {
		t.Helper()
		if x, yes := c.Next(); x != want || yes != ok || c.At() != at || c.Far() != far {
			t.Errorf("1.5: Next = %d, %v; at %d, far %d", x, yes, c.At(), c.Far())
		}
	}
	back := func(ok bool, at, far int) {
		t.Helper()
		if yes := c.Back(); yes != ok || c.At() != at || c.Far() != far {
			t.Errorf("1.5: Back = %v; at %d, far %d", yes, c.At(), c.Far())
		}
	}
	next('l', true, 10, 10)
	next('d', true, 11, 11)
	next(0, false, 11, 12)
	next(0, false, 11, 12)
	back(true, 10, 12)
	back(true, 9, 12)
	back(true, 8, 12)
	next('r', true, 9, 12)
	c = open(t, "hello world").Cursor(-5)
	back(false, 0, 0)
	c = open(t, "hello world").Cursor(7)
	back(true, 6, 7)
	next('w', true, 7, 7)
	next('o', true, 8, 8)
	c = open(t, "hello world").Cursor(math.MaxInt)
	back(true, 10, 11)
	next('d', true, 11, 11)
	next(0, false, 11, 12)
	c = open(t, "").Cursor(3)
	back(false, 0, 0)
	next(0, false, 0, 1)
	back(false, 0, 1)
}

func TestCursorsGoTheirOwnWays(t *testing.T) {
	text := long(6000)
	r := open(t, text)
	random := rand.New(rand.NewSource(5))
	const count = 7
	var cursors [count]*rope.Cursor
	var at, far [count]int
	for i := range cursors {
		at[i] = random.Intn(len(text) + 1)
		far[i] = at[i]
		cursors[i] = r.Cursor(at[i])
	}
	for range 60000 {
		i := random.Intn(count)
		c := cursors[i]
		// Runs, so that the cursors come to the end, to 0, and over the edges of chunks in both directions.
		forth := random.Intn(3) != 0 == (i%2 == 0)
		for range random.Intn(20) {
			if forth {
				x, ok := c.Next()
				if at[i] < len(text) {
					if !ok || x != text[at[i]] {
						t.Fatalf("1.5: Next at %d = %d, %v", at[i], x, ok)
					}
					at[i]++
					far[i] = max(far[i], at[i])
				} else {
					if ok || x != 0 {
						t.Fatalf("1.5: Next at the end = %d, %v", x, ok)
					}
					far[i] = len(text) + 1
				}
			} else if c.Back() != (at[i] > 0) {
				t.Fatalf("1.5: Back at %d", at[i])
			} else if at[i] > 0 {
				at[i]--
			}
		}
		for j := range cursors {
			if cursors[j].At() != at[j] || cursors[j].Far() != far[j] {
				t.Fatalf("1.6: cursor %d: at %d, far %d, want %d, %d", j, cursors[j].At(), cursors[j].Far(), at[j], far[j])
			}
		}
	}
}

// versions: ropes that came about by edits of each other, with their texts.
func versions(t *testing.T, seed int64, times int) ([]*rope.Rope, []string) {
	t.Helper()
	random := rand.New(rand.NewSource(seed))
	ropes, texts := []*rope.Rope{open(t, "")}, []string{""}
	for range times {
		i := random.Intn(len(ropes))
		n := len(texts[i])
		e := api.Edit{At: random.Intn(n + 1)}
		switch random.Intn(4) {
		case 0:
			e.Del = random.Intn(n - e.At + 1)
		case 1:
			e.Del, e.Ins = random.Intn(9), long(random.Intn(3000))
		default:
			e.Ins = long(random.Intn(9))
		}
		ropes = append(ropes, splice(t, ropes[i], e))
		texts = append(texts, after(texts[i], e))
	}
	return ropes, texts
}

func TestNothingChanges(t *testing.T) {
	ropes, texts := versions(t, 16, 600)
	for i, r := range ropes {
		c := r.Cursor(0)
		for range 50 {
			c.Next()
		}
		r.Slice(3, 9)
		r.Splice(api.Edit{At: 2, Del: 2, Ins: long(api.MaxText)})
		checkText(t, r, texts[i])
	}
}

func TestCursorOutlivesEdits(t *testing.T) {
	text := long(4000)
	r := open(t, text)
	c := r.Cursor(0)
	for i := range len(text) {
		if i%100 == 0 {
			r = splice(t, r, api.Edit{At: i, Del: 70, Ins: "xyz"})
		}
		if x, ok := c.Next(); !ok || x != text[i] {
			t.Fatalf("1.6: Next at %d = %d, %v", i, x, ok)
		}
	}
}

func TestOnlyTheTextCounts(t *testing.T) {
	ropes, texts := versions(t, 17, 300)
	e := api.Edit{At: 7, Del: 1500, Ins: "between"}
	for i, r := range ropes {
		fresh := open(t, texts[i])
		checkAll(t, r, texts[i])
		checkAll(t, fresh, texts[i])
		checkText(t, splice(t, r, e), splice(t, fresh, e).String())
	}
}

func TestPieces(t *testing.T) {
	ropes, texts := versions(t, 18, 200)
	random := rand.New(rand.NewSource(8))
	for i, r := range ropes {
		n := len(texts[i])
		var out strings.Builder
		for at := 0; at < n; {
			step := 1 + random.Intn(2*n/3+1)
			out.WriteString(r.Slice(at, step))
			at += step
		}
		if out.String() != texts[i] {
			t.Fatalf("1.8: pieces of rope %d", i)
		}
		for range 20 {
			at := random.Intn(n + 1)
			a := random.Intn(n - at + 1)
			b := random.Intn(n - at - a + 1)
			if r.Slice(at, a)+r.Slice(at+a, b) != r.Slice(at, a+b) {
				t.Fatalf("1.8: Slice(%d, %d) and the %d bytes behind it", at, a, b)
			}
		}
	}
}

// TestMemory: bytes that are handed in may be written over later, and so may bytes that are handed out.
func TestMemory(t *testing.T) {
	for _, n := range []int{40, 1024, 1025, 5000} {
		want, ins := long(n), long(n+7)
		given, added := []byte(want), []byte(ins)
		r := open(t, unsafe.String(&given[0], len(given)))
		s := splice(t, r, api.Edit{At: 20, Del: 3, Ins: unsafe.String(&added[0], len(added))})
		alone := splice(t, open(t, ""), api.Edit{Ins: unsafe.String(&added[0], len(added))})
		clear(given)
		clear(added)
		for range 2 {
			checkText(t, r, want)
			checkText(t, s, want[:20]+ins+want[23:])
			checkText(t, alone, ins)
			for _, text := range []string{r.String(), r.Slice(10, 30), s.String(), s.Slice(2, 30), alone.Slice(0, n)} {
				clear(unsafe.Slice(unsafe.StringData(text), len(text)))
			}
		}
	}
}
