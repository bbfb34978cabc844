package place_test

import (
	"math"
	"math/rand"
	"strings"
	"testing"
	"unicode/utf8"

	"trellis/api"
	"trellis/place"
)

func pos(row, col int) api.Pos { return api.Pos{Row: row, Col: col} }

// numbers: what a call may be handed as a place, a row or a column of a text of n bytes.
func numbers(n int) []int {
	out := []int{math.MinInt, math.MinInt + 1, -1 << 32, -n - 1, -2, -1, n + 1, n + 2, 2*n + 3, 1 << 32, math.MaxInt - 1, math.MaxInt}
	for at := range n + 1 {
		out = append(out, at)
	}
	return out
}

func clamp(n, most int) int {
	switch {
	case n < 0:
		return 0
	case n > most:
		return most
	}
	return n
}

func after(text string, e api.Edit) string {
	at := clamp(e.At, len(text))
	del := clamp(e.Del, len(text)-at)
	return text[:at] + e.Ins + text[at+del:]
}

// plain: the chapter's words, said of a text from its beginning on for each question.
type plain string

func (t plain) rows() []api.Range {
	out := []api.Range{{}}
	for i := range len(t) {
		if t[i] == 10 {
			out[len(out)-1].To = i
			out = append(out, api.Range{From: i + 1})
		}
	}
	out[len(out)-1].To = len(t)
	return out
}

func (t plain) pos(at int) api.Pos {
	at = clamp(at, len(t))
	p := api.Pos{}
	for i := range at {
		p.Col++
		if t[i] == 10 {
			p = pos(p.Row+1, 0)
		}
	}
	return p
}

// borders: the places of a row's borders, and the units ahead of each.
func (t plain) borders(r api.Range) (places, units []int) {
	places, units = []int{r.From}, []int{0}
	for at, n := r.From, 0; at < r.To; {
		c, size := utf8.DecodeRuneInString(string(t[at:r.To]))
		at += size
		n++
		if c > 0xffff {
			n++
		}
		places, units = append(places, at), append(units, n)
	}
	return places, units
}

func (t plain) wide(at int) api.Pos {
	at = clamp(at, len(t))
	p := t.pos(at)
	col := 0
	places, units := t.borders(t.rows()[p.Row])
	for i, b := range places {
		if b <= at {
			col = units[i]
		}
	}
	return pos(p.Row, col)
}

// at: the place of a row and a column, of bytes or of units.
func (t plain) at(p api.Pos, wide bool) int {
	rows := t.rows()
	switch {
	case p.Row < 0:
		return 0
	case p.Row >= len(rows):
		return len(t)
	}
	r := rows[p.Row]
	if !wide {
		return r.From + clamp(p.Col, r.To-r.From)
	}
	best := r.From
	places, units := t.borders(r)
	for i, b := range places {
		if units[i] <= p.Col {
			best = b
		}
	}
	return best
}

// checkAll holds all that an index answers against its text.
func checkAll(t *testing.T, x *place.Index, text string) {
	t.Helper()
	want := plain(text)
	rows := want.rows()
	if x.Rows() != len(rows) {
		t.Fatalf("2.1: %.80q: Rows() = %d, want %d", text, x.Rows(), len(rows))
	}
	ns := numbers(len(text))
	for _, n := range ns {
		r, ok := x.Row(n)
		if in := n >= 0 && n < len(rows); ok != in || in && r != rows[n] || !in && r != (api.Range{}) {
			t.Fatalf("2.1: %.80q: Row(%d) = %v, %v", text, n, r, ok)
		}
		if got := x.Pos(n); got != want.pos(n) {
			t.Fatalf("2.2: %.80q: Pos(%d) = %v, want %v", text, n, got, want.pos(n))
		}
		if got := x.Wide(n); got != want.wide(n) {
			t.Fatalf("2.4: %.80q: Wide(%d) = %v, want %v", text, n, got, want.wide(n))
		}
	}
	for _, row := range ns {
		if row > len(rows) && row < len(text) {
			continue // rows that are not there are asked for often enough
		}
		for _, col := range ns {
			p := pos(row, col)
			if got := x.At(p); got != want.at(p, false) {
				t.Fatalf("2.3: %.80q: At(%v) = %d, want %d", text, p, got, want.at(p, false))
			}
			if got := x.AtWide(p); got != want.at(p, true) {
				t.Fatalf("2.5: %.80q: AtWide(%v) = %d, want %d", text, p, got, want.at(p, true))
			}
		}
	}
}

// odd: pieces of texts that are cut into characters in all kinds of ways.
func odd() []string {
	return []string{"", "a", "\n", "\n\n", "\r\n", "\x00", "é", "\xc3", "\xa9", "ß\n", "€", "\xe2\x82", "\xe2", "\x82\xac", "😀", "\xf0\x9f", "\x98\x80", "\xf0\x9f\x98", "\xff", "\xed\xa0\x80", "\xc0\x80", "\xf4\x90\x80\x80", "\uffff", "\ufffd", "\u2028", "\U00010000", "\U0010ffff", "xyz"}
}

func texts() []string {
	out := odd()
	for _, a := range odd() {
		for _, b := range odd() {
			out = append(out, a+b, a+"\n"+b)
		}
	}
	return append(out, "aé\nx😀y\n", "\n\n\n", "one\ntwo\n\nthree", "no end", "\xff\xe2\x82")
}

func TestExamples(t *testing.T) {
	x := place.New("aé\nx😀y\n")
	if x.Rows() != 3 {
		t.Errorf("2.1: %d rows", x.Rows())
	}
	for row, want := range []api.Range{{From: 0, To: 3}, {From: 4, To: 10}, {From: 11, To: 11}} {
		if r, ok := x.Row(row); r != want || !ok {
			t.Errorf("2.1: Row(%d) = %v, %v", row, r, ok)
		}
	}
	for at, want := range map[int]api.Pos{0: pos(0, 0), 3: pos(0, 3), 4: pos(1, 0), 9: pos(1, 5), 11: pos(2, 0), 99: pos(2, 0), -1: pos(0, 0)} {
		if p := x.Pos(at); p != want {
			t.Errorf("2.2: Pos(%d) = %v", at, p)
		}
	}
	for at, want := range map[int]api.Pos{2: pos(0, 1), 3: pos(0, 2), 5: pos(1, 1), 7: pos(1, 1), 9: pos(1, 3), 10: pos(1, 4)} {
		if p := x.Wide(at); p != want {
			t.Errorf("2.4: Wide(%d) = %v", at, p)
		}
	}
	for p, want := range map[api.Pos]int{pos(1, 2): 6, pos(1, 99): 10, pos(3, 0): 11, pos(-1, 5): 0, pos(0, -2): 0} {
		if at := x.At(p); at != want {
			t.Errorf("2.3: At(%v) = %d", p, at)
		}
	}
	for p, want := range map[api.Pos]int{pos(1, 1): 5, pos(1, 2): 5, pos(1, 3): 9, pos(1, 9): 10, pos(0, 1): 1} {
		if at := x.AtWide(p); at != want {
			t.Errorf("2.5: AtWide(%v) = %d", p, at)
		}
	}
	y := place.New("\xff\xe2\x82")
	if y.Wide(1) != pos(0, 1) || y.Wide(3) != pos(0, 3) {
		t.Errorf("2.4: single bytes: %v, %v", y.Wide(1), y.Wide(3))
	}
	z := x.Edit(api.Edit{At: 3, Del: 1})
	if r, ok := z.Row(0); z.Rows() != 2 || !ok || r != (api.Range{From: 0, To: 9}) {
		t.Errorf("2.6: %d rows, the first %v", z.Rows(), r)
	}
}

func TestEveryCall(t *testing.T) {
	for _, text := range texts() {
		checkAll(t, place.New(text), text)
	}
}

// long: a row of n bytes or a few more, with characters of all lengths.
func long(r *rand.Rand, n int) string {
	pieces := []string{"a", "é", "€", "😀", "\xff", "\xe2\x82", "\xf0\x9f\x98", " "}
	var b strings.Builder
	for b.Len() < n {
		b.WriteString(pieces[r.Intn(len(pieces))])
	}
	return b.String()
}

func checkSome(t *testing.T, r *rand.Rand, x *place.Index, text string) {
	t.Helper()
	want := plain(text)
	rows := want.rows()
	if x.Rows() != len(rows) {
		t.Fatalf("2.1: Rows() = %d, want %d", x.Rows(), len(rows))
	}
	for range 40 {
		at := r.Intn(len(text) + 1)
		if x.Pos(at) != want.pos(at) || x.Wide(at) != want.wide(at) {
			t.Fatalf("2.2, 2.4: at %d of %d bytes: %v, %v, want %v, %v", at, len(text), x.Pos(at), x.Wide(at), want.pos(at), want.wide(at))
		}
		p := pos(r.Intn(len(rows)), r.Intn(len(text)+2))
		if x.At(p) != want.at(p, false) || x.AtWide(p) != want.at(p, true) {
			t.Fatalf("2.3, 2.5: %v: %d, %d, want %d, %d", p, x.At(p), x.AtWide(p), want.at(p, false), want.at(p, true))
		}
	}
}

func TestLongRows(t *testing.T) {
	r := rand.New(rand.NewSource(2))
	for _, n := range []int{500, 511, 512, 513, 514, 515, 516, 1023, 1024, 1025, 4000} {
		text := long(r, n)
		checkSome(t, r, place.New(text), text)
		text = long(r, n) + "\n" + long(r, n) + "\n\n" + long(r, 5)
		checkSome(t, r, place.New(text), text)
	}
	for _, n := range []int{511, 512, 513, 1024, 1025, 1537} {
		faces := strings.Repeat("x", n%4) + strings.Repeat("😀", n)
		checkSome(t, r, place.New(faces), faces)
	}
}

// A text may be of any length here, and a column far to the right must not take as long as the row.
func TestAboveMaxText(t *testing.T) {
	const faces = 3 * api.MaxText / 4
	text := strings.Repeat("😀", faces) + "\n" + strings.Repeat("x\n", 1000)
	x := place.New(text)
	if x.Rows() != 1002 || x.Wide(4*faces) != pos(0, 2*faces) || x.AtWide(pos(0, math.MaxInt)) != 4*faces {
		t.Fatalf("%d rows, %v, %d", x.Rows(), x.Wide(4*faces), x.AtWide(pos(0, math.MaxInt)))
	}
	for i := 0; i <= faces; i += 7 {
		if p := x.Wide(4*i + 3*min(1, faces-i)); p != pos(0, 2*i) {
			t.Fatalf("2.4: face %d: %v", i, p)
		}
		if at := x.AtWide(pos(0, 2*i)); at != 4*i {
			t.Fatalf("2.5: face %d: %d", i, at)
		}
	}
	y := x.Edit(api.Edit{At: math.MaxInt, Del: math.MaxInt, Ins: text})
	if y.Rows() != 2003 || y.Pos(math.MaxInt) != pos(2002, 0) || y.AtWide(pos(1001, 3)) != len(text)+4 {
		t.Errorf("2.6: %d rows, %v", y.Rows(), y.Pos(math.MaxInt))
	}
}

func checkBack(t *testing.T, x *place.Index, text string) {
	t.Helper()
	last := place.New(text).Pos(0)
	lastWide := last
	for at := range len(text) + 1 {
		p, w := x.Pos(at), x.Wide(at)
		if x.At(p) != at {
			t.Fatalf("2.7: %q: At(Pos(%d)) = %d", text, at, x.At(p))
		}
		places, units := plain(text).borders(plain(text).rows()[p.Row])
		best := 0
		for i, b := range places {
			if b <= at {
				best = b
			}
			if x.Wide(b) != pos(p.Row, units[i]) || x.AtWide(x.Wide(b)) != b {
				t.Fatalf("2.7: %q: the border %d", text, b)
			}
		}
		if x.AtWide(w) != best {
			t.Fatalf("2.7: %q: AtWide(Wide(%d)) = %d, want %d", text, at, x.AtWide(w), best)
		}
		if less(p, last) || less(w, lastWide) {
			t.Fatalf("2.8: %q: %d has %v, %v, the place ahead %v, %v", text, at, p, w, last, lastWide)
		}
		last, lastWide = p, w
	}
	for row := range x.Rows() {
		r, _ := x.Row(row)
		for col := range r.To - r.From + 1 {
			if p := pos(row, col); x.Pos(x.At(p)) != p {
				t.Fatalf("2.7: %q: Pos(At(%v)) = %v", text, p, x.Pos(x.At(p)))
			}
		}
		all := x.Wide(r.To).Col
		for col := range all + 3 {
			w := x.Wide(x.AtWide(pos(row, col)))
			if w.Row != row || w.Col > col || col <= all && w.Col < col-1 {
				t.Fatalf("2.7: %q: Wide(AtWide(%d, %d)) = %v", text, row, col, w)
			}
		}
	}
}

func less(a, b api.Pos) bool { return a.Row < b.Row || a.Row == b.Row && a.Col < b.Col }

func TestThereAndBackAndOrder(t *testing.T) {
	for _, text := range texts() {
		checkBack(t, place.New(text), text)
	}
}

func TestEveryEdit(t *testing.T) {
	for _, text := range []string{"", "a", "\n", "a\nb", "é\n😀\n", "\n\nx\n", "\xe2\x82\n\xac"} {
		x := place.New(text)
		for _, at := range numbers(len(text)) {
			for _, del := range numbers(len(text)) {
				for _, ins := range []string{"", "x", "\n", "a\n\nb", "\xac", "\xe2", "\n😀"} {
					e := api.Edit{At: at, Del: del, Ins: ins}
					y, want := x.Edit(e), after(text, e)
					if y.Rows() != place.New(want).Rows() || y.Wide(math.MaxInt) != place.New(want).Wide(math.MaxInt) {
						t.Fatalf("2.6: %q behind %v", text, e)
					}
					if (at+del)%3 == 0 {
						checkAll(t, y, want)
					}
				}
			}
		}
		checkAll(t, x, text)
	}
}

func TestChains(t *testing.T) {
	r := rand.New(rand.NewSource(9))
	pieces := odd()
	for range 150 {
		text := pieces[r.Intn(len(pieces))] + pieces[r.Intn(len(pieces))]
		x := place.New(text)
		for range 12 {
			e := api.Edit{At: r.Intn(len(text)+3) - 1, Del: r.Intn(5) - 1, Ins: pieces[r.Intn(len(pieces))]}
			before, was := x, text
			x, text = x.Edit(e), after(text, e)
			checkAll(t, x, text)
			checkAll(t, before, was)
		}
	}
}

func TestChainsOfLongRows(t *testing.T) {
	r := rand.New(rand.NewSource(29))
	for range 10 {
		text := long(r, 1500)
		x := place.New(text)
		for range 30 {
			e := api.Edit{At: r.Intn(len(text) + 1), Del: r.Intn(300), Ins: long(r, r.Intn(300))}
			if r.Intn(3) == 0 {
				e.Ins += "\n"
			}
			before, was := x, text
			x, text = x.Edit(e), after(text, e)
			checkSome(t, r, x, text)
			checkSome(t, r, before, was)
		}
	}
}

// Two edits of one index know nothing of each other.
func TestEditsOfOneIndex(t *testing.T) {
	const text = "a\nb\nc\nd"
	x := place.New(text)
	edits := []api.Edit{{At: 1, Del: 3, Ins: "\n\n\n"}, {At: 7, Ins: "\ne\nf"}, {At: 0, Del: 99}, {At: 4, Ins: "q"}, {}}
	var all []*place.Index
	for _, e := range edits {
		all = append(all, x.Edit(e))
	}
	for i, e := range edits {
		checkAll(t, all[i], after(text, e))
	}
	checkAll(t, x, text)
}
