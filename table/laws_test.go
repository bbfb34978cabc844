package table_test

import (
	"errors"
	"math"
	"math/rand"
	"reflect"
	"slices"
	"testing"

	"trellis/api"
	"trellis/table"
)

// enough: fails if one of the kinds has come up too seldom for the test to tell anything.
func enough(t *testing.T, least int, seen map[string]int, kinds ...string) {
	t.Helper()
	for _, k := range kinds {
		if seen[k] < least {
			t.Errorf("only %d of %q: %v", seen[k], k, seen)
		}
	}
}

// 13.1 against the chapter's words.
func TestBuildModel(t *testing.T) {
	r := rand.New(rand.NewSource(1))
	seen := map[string]int{}
	for range 15000 {
		g := anyGram(r, 5, 4, 8)
		got, want := build(g), plainBuild(g)
		if !got.equal(want) {
			t.Fatalf("13.1: Build(%v) = %+v, want %+v", g, got, want)
		}
		switch {
		case got.code == api.OK && len(got.table.Actions) > 8:
			seen["great"]++
		case got.code == api.OK:
			seen["OK"]++
		case got.state > 0 && got.token > 0:
			seen["conflict further on"]++
		default:
			seen["conflict"]++
		}
	}
	enough(t, 300, seen, "great", "OK", "conflict further on", "conflict")
}

// 13.1 of greater grammars: with tokens up to 63.
func TestGreatModel(t *testing.T) {
	r := rand.New(rand.NewSource(2))
	seen := map[string]int{}
	for range 300 {
		g := anyGram(r, 64, 20, 40)
		got, want := build(g), plainBuild(g)
		if !got.equal(want) {
			t.Fatalf("13.1: Build(%v) = %+v, want %+v", g, got, want)
		}
		if got.code == api.OK {
			seen["OK"]++
		}
	}
	enough(t, 50, seen, "OK")
}

// walk: a stack of states, and how tokens are taken.
type walk struct {
	g     api.Gram
	t     api.Table
	stack []int
}

func (w *walk) top() int { return w.stack[len(w.stack)-1] }

// take does what the table says of a token until that is no reduction: what that is. Fails if there are reductions without end.
func (w *walk) take(t *testing.T, token int) api.ActionKind {
	t.Helper()
	for range 10000 {
		a := w.t.Actions[w.top()][token]
		switch a.Kind {
		case api.ActionReduce:
			p := w.g.Prods[a.N]
			w.stack = w.stack[:len(w.stack)-len(p.Rhs)]
			w.stack = append(w.stack, w.t.Gotos[w.top()][p.Lhs])
		case api.ActionShift:
			w.stack = append(w.stack, a.N)
			return a.Kind
		default:
			return a.Kind
		}
	}
	t.Fatalf("13.3: %v: reductions without end", w.g)
	return 0
}

// checkRows: 13.3 of all rows of up to n tokens more.
func (w *walk) checkRows(t *testing.T, s *speech, c chart, n int, seen map[string]int) {
	t.Helper()
	want := s.valid(c)
	if v := table.Valid(w.t, w.top()); v != want {
		t.Fatalf("13.3: %v: behind a row of %d tokens %b is valid, told is %b", w.g, len(c)-1, want, v)
	}
	seen["valid sets"]++
	for token := range w.g.Terms {
		next := walk{w.g, w.t, slices.Clone(w.stack)}
		did := next.take(t, token)
		stands := want>>token&1 == 1
		switch {
		case token == 0:
			if did != api.ActionAccept && did != api.ActionNone || (did == api.ActionAccept) != stands {
				t.Fatalf("13.3: %v: the end: %d, a sentence: %v", w.g, did, stands)
			}
			if stands {
				seen["sentences"]++
			}
		case did != api.ActionShift && did != api.ActionNone || (did == api.ActionShift) != stands:
			t.Fatalf("13.3: %v: the token %d: %d, valid: %v", w.g, token, did, stands)
		case stands && n > 0:
			next.checkRows(t, s, s.more(c, token), n-1, seen)
		case !stands:
			seen["no prefixes"]++
		}
	}
}

func checkWalks(t *testing.T, lines string, n int, seen map[string]int) {
	t.Helper()
	d, g, ok := read(t, lines)
	if !ok {
		seen["not well formed"]++
		return
	}
	tb, code, _, _ := table.Build(g)
	if code != api.OK {
		seen["refused"]++
		return
	}
	seen["taken"]++
	s := speechOf(d, g)
	w := walk{g, tb, []int{0}}
	w.checkRows(t, s, s.begin(), n, seen)
}

// 13.3 of definitions that lean on all there is.
func TestWalks(t *testing.T) {
	seen := map[string]int{}
	l := []string{
		`rule s = t ("+" t)*; rule t = "n" | "(" s ")";`,
		`rule s = s "+" t | t; rule t = t "*" u | u; rule u = "-" u | "n" | "(" s ")";`,
		`rule s = "a" s "b" | ();`,
		`rule s = "a" e "c" | "a" f "d" | "b" f "c" | "b" e "d"; rule e = "e"; rule f = "e";`,
		`token n /n/; token _l /l/; token _i /i/; token _d /d/; rule s = b*; rule b = n (_i b+ _d | _l);`,
		`rule s = a b c "x"; rule a = "a"?; rule b = "b"*; rule c = () | "c" c;`,
		`rule s = "{" (p ("," p)*)? "}"; rule p = k: "k" ":" v: v; rule v = "n" | s@o | "[" (v ("," v)*)? "]";`,
		`rule s = "i" s "t" s "e" s | "x";`,
		`rule s = ();`,
		`rule s = t t "a"; rule t = u; rule u = ();`,
	}
	for _, lines := range l {
		checkWalks(t, lines, 6, seen)
	}
	if seen["taken"] != len(l) {
		t.Errorf("not all are taken: %v", seen)
	}
}

// 13.3 of any definitions.
func TestAnyWalks(t *testing.T) {
	r := rand.New(rand.NewSource(3))
	seen := map[string]int{}
	for range 12000 {
		checkWalks(t, anyLines(r), 3, seen)
	}
	enough(t, 500, seen, "taken", "refused", "valid sets", "sentences", "no prefixes")
}

// 13.4, 13.6: there and back; of a beginning that is shorter there is no table.
func TestBack(t *testing.T) {
	r := rand.New(rand.NewSource(4))
	for range 4000 {
		tb := anyTable(r, 6, 4, 4)
		image := table.Encode(tb)
		if image == "" || image != plainImage(tb) {
			t.Fatalf("13.4: Encode(%v) = %v", tb, []byte(image))
		}
		if back, err := table.Decode(image); err != nil || !same(back, tb) {
			t.Fatalf("13.6: Decode of the image of %v: %v, %v", tb, back, err)
		}
		for i := range image {
			if back, err := table.Decode(image[:i]); err == nil || len(back.Actions)+len(back.Gotos) != 0 {
				t.Fatalf("13.6: %v: the first %d bytes of %v: %v", tb, i, []byte(image), back)
			}
		}
	}
	for range 30 {
		tb := anyTable(r, 2048, 64, 128)
		image := table.Encode(tb)
		if back, err := table.Decode(image); err != nil || image != plainImage(tb) || !same(back, tb) {
			t.Fatalf("13.6: of %d states: %d bytes, %v", len(tb.Actions), len(image), err)
		}
	}
}

// checkImage: Decode against the chapter's words, and Encode of what it takes.
func checkImage(t *testing.T, image string, seen map[string]int) {
	t.Helper()
	want, at := plainRead(image)
	if at >= 0 {
		refused(t, image, at)
		seen["refused"]++
		return
	}
	tb, err := table.Decode(image)
	if err != nil || !same(tb, want) {
		t.Fatalf("13.5: Decode(%v) = %v, %v, want %v", []byte(image), tb, err, want)
	}
	if s := table.Encode(tb); s != image {
		t.Fatalf("13.6: %v comes back as %v", []byte(image), []byte(s))
	}
	seen["taken"]++
}

// 13.5, 13.6: all short strings of some bytes.
func TestShortImages(t *testing.T) {
	seen := map[string]int{}
	some := []byte{0, 1, 2, 3, 4, 127, 128, 129, 255}
	var grow func(image string, n int)
	grow = func(image string, n int) {
		checkImage(t, image, seen)
		if n > 0 && !t.Failed() {
			for _, b := range some {
				grow(image+string([]byte{b}), n-1)
			}
		}
	}
	grow("T\x01", 6)
	grow("T", 2)
	for b := range 256 {
		checkImage(t, string([]byte{byte(b)}), seen)
		for c := range 256 {
			checkImage(t, string([]byte{byte(b), byte(c)}), seen)
			checkImage(t, string([]byte{'T', 1, byte(b), byte(c)}), seen)
			checkImage(t, string([]byte{'T', 1, 1, 1, 0, byte(b), byte(c)}), seen)
			checkImage(t, string([]byte{'T', 1, 1, 1, 1, 0, byte(b), byte(c)}), seen)
		}
	}
	enough(t, 200, seen, "taken", "refused")
}

// 13.5, 13.6: images in which something has been changed.
func TestSpoiltImages(t *testing.T) {
	r := rand.New(rand.NewSource(5))
	seen := map[string]int{}
	for range 40000 {
		b := []byte(table.Encode(anyTable(r, pick(r, 3, 150), 3, 3)))
		for range 1 + r.Intn(2) {
			at := r.Intn(len(b))
			switch r.Intn(5) {
			case 0:
				b = slices.Delete(b, at, at+1)
			case 1:
				b = slices.Insert(b, at, byte(r.Intn(256)))
			case 2:
				b[at] ^= 1 << r.Intn(8)
			case 3:
				b[at] = byte(r.Intn(6))
			case 4:
				b[at] |= 128
				b = slices.Insert(b, at+1, pick[byte](r, 0, 1, 2, 128))
			}
		}
		checkImage(t, string(b), seen)
		if t.Failed() {
			return
		}
	}
	enough(t, 2000, seen, "taken", "refused")
}

// 13.4, P1: tables of any numbers.
func TestSpoiltTables(t *testing.T) {
	r := rand.New(rand.NewSource(6))
	seen := map[string]int{}
	number := func(tb api.Table) int {
		return pick(r, -2, -1, 0, 1, len(tb.Actions)-1, len(tb.Actions), 255, 256, math.MinInt, math.MaxInt, math.MaxInt/2)
	}
	for range 30000 {
		tb := anyTable(r, 4, 3, 3)
		i := r.Intn(len(tb.Actions))
		switch r.Intn(6) {
		case 0:
			tb.Actions[i][0] = api.Action{Kind: pick[api.ActionKind](r, -1, 0, 1, 2, 3, 4, math.MinInt), N: number(tb)}
		case 1:
			tb.Gotos[i] = append(tb.Gotos[i], number(tb))
		case 2:
			if len(tb.Gotos[i]) > 0 {
				tb.Gotos[i][0] = number(tb)
			}
		case 3:
			tb.Actions[i] = pick(r, nil, tb.Actions[i][:r.Intn(len(tb.Actions[i]))], append(tb.Actions[i], accept()))
		case 4:
			tb.Gotos = tb.Gotos[:i]
		case 5:
			tb.Actions = tb.Actions[:i]
		}
		s := table.Encode(tb)
		if s != plainImage(tb) {
			t.Fatalf("13.4: Encode(%v) = %v", tb, []byte(s))
		}
		if s == "" {
			seen["not well shaped"]++
		} else {
			seen["well shaped"]++
		}
		for _, state := range []int{-1, 0, i, len(tb.Actions), number(tb)} {
			var want api.Terms
			if state >= 0 && state < len(tb.Actions) {
				for token, a := range tb.Actions[state] {
					if a.Kind != api.ActionNone {
						want |= 1 << token
					}
				}
			}
			if v := table.Valid(tb, state); v != want {
				t.Fatalf("13.2: Valid(%v, %d) = %b", tb, state, v)
			}
		}
	}
	enough(t, 2000, seen, "well shaped", "not well shaped")
}

// P1, P4: grammars of any numbers.
func TestSpoiltGrammars(t *testing.T) {
	r := rand.New(rand.NewSource(7))
	seen := map[string]int{}
	for range 8000 {
		g := anyGram(r, 4, 4, 6)
		number := func() int {
			all := len(g.Terms) + len(g.Syms)
			return pick(r, -2, -1, 0, 1, len(g.Terms), len(g.Syms), all-1, all, 63, 64, 191, 192, math.MinInt, math.MaxInt)
		}
		p := &g.Prods[r.Intn(len(g.Prods))]
		switch r.Intn(5) {
		case 0:
			p.Lhs = number()
		case 1:
			p.Rhs = append(p.Rhs, api.Ref{Sym: number()})
		case 2:
			g.Terms = make([]api.TermDef, r.Intn(70))
		case 3:
			g.Syms = make([]api.Sym, r.Intn(140))
		case 4:
			g.Prods = g.Prods[1:]
		}
		got, want := build(g), plainBuild(g)
		if !got.equal(want) {
			t.Fatalf("13.1: Build(%v) = %+v, want %+v", g, got, want)
		}
		seen[got.code.Error()]++
	}
	enough(t, 200, seen, api.OK.Error(), api.ErrShape.Error(), api.ErrConflict.Error())
}

// filled: all of the list's room is written into.
func filled[T any](l []T, x T) {
	l = l[:cap(l)]
	for i := range l {
		l[i] = x
	}
}

// scribble writes into all rows of a table, one by one; fails if another row changes with one.
func scribble(t *testing.T, tb api.Table) {
	t.Helper()
	want := cloned(tb)
	for i := range tb.Actions {
		filled(tb.Actions[i], api.Action{Kind: 99})
		want.Actions[i] = slices.Repeat([]api.Action{{Kind: 99}}, len(tb.Actions[i]))
		filled(tb.Gotos[i], -99)
		want.Gotos[i] = slices.Repeat([]int{-99}, len(tb.Gotos[i]))
		if !same(tb, want) {
			t.Fatalf("P2: the rows of the state %d share memory with others", i)
		}
	}
	filled(tb.Actions, nil)
	filled(tb.Gotos, nil)
}

func cloned(tb api.Table) api.Table {
	out := api.Table{Actions: slices.Clone(tb.Actions), Gotos: slices.Clone(tb.Gotos)}
	for i := range out.Actions {
		out.Actions[i] = slices.Clone(out.Actions[i])
	}
	for i := range out.Gotos {
		out.Gotos[i] = slices.Clone(out.Gotos[i])
	}
	return out
}

// roomy: a list with spare room, and what is in it.
func roomy[T any](l []T, spare T) []T { return append(slices.Clone(l), spare, spare)[:len(l)] }

// whole: the list with all that is in its spare room.
func whole[T any](l []T) []T { return slices.Clone(l[:cap(l)]) }

func wholeGram(g api.Gram) api.Gram {
	out := api.Gram{Terms: whole(g.Terms), Syms: whole(g.Syms), Prods: whole(g.Prods)}
	for i := range out.Prods {
		out.Prods[i].Rhs = whole(out.Prods[i].Rhs)
	}
	return out
}

// P2, P3 of Build.
func TestMemoryOfBuild(t *testing.T) {
	r := rand.New(rand.NewSource(8))
	taken := 0
	for range 1500 {
		g := anyGram(r, 5, 4, 8)
		g = api.Gram{Terms: roomy(g.Terms, api.TermDef{Name: "spare"}), Syms: roomy(g.Syms, api.Sym{Name: "spare"}), Prods: roomy(g.Prods, api.Prod{Lhs: -3})}
		for i := range g.Prods {
			g.Prods[i].Rhs = roomy(g.Prods[i].Rhs, api.Ref{Sym: -5})
		}
		before := wholeGram(g)
		one := build(g)
		want := one
		want.table = cloned(one.table)
		scribble(t, one.table)
		two := build(g)
		if !two.equal(want) {
			t.Fatalf("P2, P3: %v: %+v, then %+v", g, want, two)
		}
		if !reflect.DeepEqual(wholeGram(g), before) {
			t.Fatalf("P2: %v has been changed to %v", before, g)
		}
		for i := range g.Prods {
			filled(g.Prods[i].Rhs, api.Ref{Sym: -1})
		}
		filled(g.Prods, api.Prod{Lhs: 77})
		if !two.equal(want) {
			t.Fatalf("P2: %v: the answer is bound to the grammar", before)
		}
		if two.code == api.OK {
			taken++
		}
	}
	if taken < 200 {
		t.Errorf("only %d tables", taken)
	}
}

// P2, P3 of the others.
func TestMemoryOfImages(t *testing.T) {
	r := rand.New(rand.NewSource(9))
	for range 1500 {
		tb := anyTable(r, 5, 4, 4)
		tb.Actions, tb.Gotos = roomy(tb.Actions, []api.Action{reduce(7)}), roomy(tb.Gotos, []int{7})
		for i := range tb.Actions {
			tb.Actions[i], tb.Gotos[i] = roomy(tb.Actions[i], reduce(8)), roomy(tb.Gotos[i], 8)
		}
		if r.Intn(4) == 0 {
			tb.Gotos[0] = roomy(append(tb.Gotos[0], -5), 8)
		}
		all := func() any {
			out := api.Table{Actions: whole(tb.Actions), Gotos: whole(tb.Gotos)}
			for i := range out.Actions {
				out.Actions[i] = whole(out.Actions[i])
			}
			for i := range out.Gotos {
				out.Gotos[i] = whole(out.Gotos[i])
			}
			return out
		}
		before := all()
		image, valid := table.Encode(tb), table.Valid(tb, 0)
		if image != table.Encode(tb) || valid != table.Valid(tb, 0) || !reflect.DeepEqual(all(), before) {
			t.Fatalf("P2, P3: %v has been changed to %v", before, tb)
		}
		one, err := table.Decode(image)
		if (err == nil) != (image != "") {
			t.Fatalf("13.6: %v: %v", tb, err)
		}
		want := cloned(one)
		scribble(t, one)
		two, _ := table.Decode(image)
		if !same(two, want) {
			t.Fatalf("P2, P3: Decode(%v): %v, then %v", []byte(image), want, two)
		}
	}
}

// P2, P3: an error that is handed out is nobody else's.
func TestMemoryOfErrors(t *testing.T) {
	for _, image := range []string{"", "T\x01\x80", "T\x01\x00", smallImage + "x"} {
		_, one := table.Decode(image)
		var b *api.Broken
		if !errors.As(one, &b) {
			t.Fatalf("13.5: %v", one)
		}
		want := *b
		*b = api.Broken{}
		_, two := table.Decode(image)
		if !errors.As(two, &b) || *b != want {
			t.Errorf("P2: %v, then %v", want, two)
		}
	}
}

// Names change nothing: a table is one of numbers.
func TestNames(t *testing.T) {
	r := rand.New(rand.NewSource(10))
	for range 500 {
		g := anyGram(r, 5, 4, 8)
		want := build(g)
		for i := range g.Terms {
			g.Terms[i] = api.TermDef{Name: pick(r, "", "_", "a"), Lit: r.Intn(2) == 0}
		}
		for i := range g.Syms {
			g.Syms[i] = api.Sym{Name: pick(r, "", "_", "a"), Kind: api.SymKind(r.Intn(5))}
		}
		for i := range g.Prods {
			for j := range g.Prods[i].Rhs {
				g.Prods[i].Rhs[j].Field, g.Prods[i].Rhs[j].As = pick(r, "", "f"), pick(r, "", "n")
			}
		}
		if got := build(g); !got.equal(want) {
			t.Fatalf("13.1: %v: %+v, want %+v", g, got, want)
		}
	}
}
