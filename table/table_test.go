package table_test

import (
	"errors"
	"math"
	"slices"
	"strings"
	"testing"

	"trellis/api"
	"trellis/table"
)

// small: the table of the chapter's example, and its image.
func small() api.Table {
	return api.Table{
		Actions: [][]api.Action{{{}, shift(1)}, {reduce(2), shift(1)}, {accept(), {}}, {reduce(1), {}}},
		Gotos:   [][]int{{2}, {3}, {-1}, {-1}},
	}
}

const smallImage = "T\x01\x04\x02\x01\x00\x04\x07\x04\x01\x00\x05\x00\x03\x04\x00\x00"

func build(g api.Gram) answer {
	var a answer
	a.table, a.code, a.state, a.token = table.Build(g)
	return a
}

func TestExampleOfBuild(t *testing.T) {
	byHand := gram(2, 1, prod(0, 1, 2), prod(0, 1))
	_, fromText, _ := read(t, "token a /a/; rule s = a s | a;")
	for _, g := range []api.Gram{byHand, fromText} {
		if a := build(g); !a.equal(answer{table: small()}) {
			t.Errorf("13.1: %+v", a)
		}
	}
}

// Each kind of conflict; the least state, and the least token in it.
func TestConflicts(t *testing.T) {
	for i, c := range []struct {
		g            api.Gram
		state, token int
	}{
		// shifting and reducing: behind s s an a may come to the second s, or end it
		{gram(2, 1, prod(0, 2, 2), prod(0, 1)), 3, 1},
		// two reductions, at the end
		{gram(2, 2, prod(0, 1), prod(0, 3), prod(1, 1)), 1, 0},
		// two reductions of the empty row, at the beginning
		{gram(2, 3, prod(0, 3, 1), prod(0, 4, 1), prod(1), prod(2)), 0, 1},
		// accepting and reducing: S -> S
		{gram(2, 1, prod(0, 2), prod(0, 1)), 2, 0},
		// two that are the same but for their numbers
		{gram(2, 1, prod(0, 1), prod(0, 1)), 1, 0},
		// on b 2 and c 3, of which the items tell c first: X -> a, then Y -> a, Z -> a (S 4, X 5, Y 6, Z 7, W 8)
		{gram(4, 5, prod(0, 5, 3), prod(0, 6, 3), prod(0, 7, 2), prod(0, 8, 2), prod(1, 1), prod(2, 1), prod(3, 1), prod(4, 1)), 1, 2},
		// in the states behind b and behind a, of which the latter is the lesser one; there on c alone
		{gram(4, 3, prod(0, 1, 5, 3), prod(0, 1, 6, 3), prod(0, 2, 5), prod(0, 2, 6), prod(1), prod(2)), 1, 3},
	} {
		if a := build(c.g); !a.equal(answer{api.Table{}, api.ErrConflict, c.state, c.token}) || a.table.Actions != nil || a.table.Gotos != nil {
			t.Errorf("13.1: %d: %+v, want the state %d, the token %d", i, a, c.state, c.token)
		}
	}
}

// What the loader will take and what not.
func TestDefinitions(t *testing.T) {
	for _, c := range []struct {
		lines string
		code  api.Errno
	}{
		{`rule s = "a";`, api.OK},
		{`rule s = ();`, api.OK},
		{`rule s = "a" | "a";`, api.ErrConflict},
		{`rule s = "a"* "a";`, api.OK},
		{`rule s = "a"? "a";`, api.ErrConflict},
		{`rule s = "a"* "a"?;`, api.ErrConflict},
		{`rule s = ("a"?)*;`, api.ErrConflict},
		{`rule s = ("a"*)?;`, api.ErrConflict},
		{`rule s = ("a"+)+;`, api.ErrConflict},
		{`rule s = "a" s "a" | ();`, api.ErrConflict},
		{`rule s = "a" s "b" | ();`, api.OK},
		{`rule s = "i" s | "i" s "e" s | "x";`, api.ErrConflict},
		{`rule s = s "+" t | t; rule t = "n" | "(" s ")";`, api.OK},
		{`rule s = s "+" s | "n";`, api.ErrConflict},
		// two tokens ahead would be needed
		{`rule s = x "b" "c" | y "b" "d"; rule x = "a"; rule y = "a";`, api.ErrConflict},
		// canonical sets tell these apart, merged ones would not
		{`rule s = "a" e "c" | "a" f "d" | "b" f "c" | "b" e "d"; rule e = "e"; rule f = "e";`, api.OK},
	} {
		_, g, ok := read(t, c.lines)
		if !ok {
			t.Fatalf("%s is not well formed", c.lines)
		}
		a := build(g)
		if a.code != c.code || (c.code == api.OK) != (len(a.table.Actions) > 0) {
			t.Errorf("13.1: %s: %d in %d on %d", c.lines, a.code, a.state, a.token)
		}
	}
}

// What items.Sets refuses: not right, or too many sets.
func TestRefusedGrammars(t *testing.T) {
	chain := func(n int) api.Gram { return gram(2, 1, prod(0, slices.Repeat([]int{1}, n)...)) } // n sets behind tokens, the first one, that behind s
	for i, c := range []struct {
		g    api.Gram
		code api.Errno
	}{
		{api.Gram{}, api.ErrShape},
		{gram(2, 0), api.ErrShape},
		{gram(65, 1), api.ErrShape},
		{gram(2, 129), api.ErrShape},
		{gram(2, 1, prod(1, 1)), api.ErrShape},
		{gram(2, 1, prod(0, 0)), api.ErrShape},
		{gram(2, 1, prod(0, 3)), api.ErrShape},
		{gram(2, 1, prod(0, math.MinInt)), api.ErrShape},
		{chain(api.MaxStates - 1), api.ErrStates},
	} {
		if a := build(c.g); !a.equal(answer{api.Table{}, c.code, -1, -1}) {
			t.Errorf("13.1: %d: %+v, want %d", i, a, c.code)
		}
	}
	if a := build(chain(api.MaxStates - 2)); a.code != api.OK || len(a.table.Actions) != api.MaxStates || !a.equal(plainBuild(chain(api.MaxStates-2))) {
		t.Errorf("13.1: of MaxStates sets: %d, %d states", a.code, len(a.table.Actions))
	}
	// a conflict does not count if there are too many sets
	g := chain(api.MaxStates - 1)
	g.Prods = append(g.Prods, g.Prods[1])
	if a := build(g); a.code != api.ErrStates {
		t.Errorf("13.1: %+v", a)
	}
	// all tokens and Syms that there may be, and a production that no definition has so many of
	g = gram(64, 128, prod(0, 63, 191), prod(127, 62))
	for range 400 {
		g.Prods = append(g.Prods, prod(5, 1))
	}
	g.Prods = append(g.Prods, prod(127, 61))
	if a := build(g); !a.equal(plainBuild(g)) || a.code != api.OK || !slices.Contains(a.table.Actions[3], reduce(403)) && !slices.Contains(a.table.Actions[4], reduce(403)) {
		t.Errorf("13.1: %d: %v", a.code, a.table.Actions)
	}
}

// A Sym without productions, and a first one from which nothing comes.
func TestBarren(t *testing.T) {
	want := answer{table: api.Table{Actions: [][]api.Action{{{}}, {accept()}}, Gotos: [][]int{{1, -1}, {-1, -1}}}}
	if a := build(gram(1, 2)); !a.equal(want) {
		t.Errorf("13.1: %+v", a)
	}
}

func TestExampleOfValid(t *testing.T) {
	for i, want := range []api.Terms{2, 3, 1, 1, 0} {
		if s := table.Valid(small(), i); s != want {
			t.Errorf("13.2: Valid of %d: %b, want %b", i, s, want)
		}
	}
}

// Valid asks nothing of a table but the row.
func TestValidOfAnything(t *testing.T) {
	long := make([]api.Action, 200)
	for i := range long {
		long[i] = shift(i)
	}
	edge := make([]api.Action, 65)
	edge[0], edge[62], edge[63], edge[64] = accept(), api.Action{N: 9}, reduce(1), reduce(1)
	odd := []api.Action{{Kind: 4}, {N: 1}, {Kind: -1}, {}, {Kind: 1, N: -5}, {Kind: math.MaxInt, N: math.MinInt}}
	tb := api.Table{Actions: [][]api.Action{long, edge, odd, nil, {}}}
	for i, c := range []struct {
		state int
		want  api.Terms
	}{
		{0, math.MaxUint64}, {1, 1<<63 | 1}, {2, 1<<0 | 1<<2 | 1<<4 | 1<<5}, {3, 0}, {4, 0}, {5, 0}, {-1, 0}, {math.MaxInt, 0}, {math.MinInt, 0},
	} {
		if s := table.Valid(tb, c.state); s != c.want {
			t.Errorf("13.2: %d: Valid of %d: %b, want %b", i, c.state, s, c.want)
		}
	}
	if table.Valid(api.Table{}, 0) != 0 || table.Valid(api.Table{Gotos: [][]int{{1}}}, 0) != 0 {
		t.Error("13.2: a table without states has valid tokens")
	}
}

func TestExampleOfImage(t *testing.T) {
	if s := table.Encode(small()); s != smallImage {
		t.Errorf("13.4: %v", []byte(s))
	}
	if tb, err := table.Decode(smallImage); err != nil || !same(tb, small()) {
		t.Errorf("13.5: %+v, %v", tb, err)
	}
	if smallImage != plainImage(small()) || len(smallImage) != 17 {
		t.Error("the tests' image is not the chapter's")
	}
}

// wide: a table with so many states, tokens and Syms.
func wide(states, tokens, syms int) api.Table {
	var t api.Table
	for range states {
		t.Actions, t.Gotos = append(t.Actions, make([]api.Action, tokens)), append(t.Gotos, make([]int, syms))
	}
	return t
}

// alone: a table of one state.
func alone(a api.Action, gotos ...int) api.Table {
	return api.Table{Actions: [][]api.Action{{a}}, Gotos: [][]int{gotos}}
}

// Each bound of a well shaped table, and one beyond it.
func TestShapes(t *testing.T) {
	with := func(spoil func(t *api.Table)) api.Table {
		t := small()
		spoil(&t)
		return t
	}
	for i, c := range []struct {
		t  api.Table
		ok bool
	}{
		{wide(1, 1, 0), true}, {wide(0, 0, 0), false}, {wide(1, 0, 0), false}, {wide(1, 0, 1), false},
		{wide(2048, 64, 128), true}, {wide(2049, 64, 128), false}, {wide(2048, 65, 128), false}, {wide(2048, 64, 129), false},
		{wide(1, 64, 0), true}, {wide(1, 65, 0), false}, {wide(1, 1, 128), true}, {wide(1, 1, 129), false}, {wide(2049, 1, 0), false},
		{api.Table{Actions: small().Actions}, false},
		{api.Table{Gotos: small().Gotos}, false},
		{with(func(t *api.Table) { t.Gotos = t.Gotos[:3] }), false},
		{with(func(t *api.Table) { t.Gotos = append(t.Gotos, []int{-1}) }), false},
		{with(func(t *api.Table) { t.Actions = append(t.Actions, []api.Action{{}, {}}) }), false},
		{with(func(t *api.Table) { t.Actions[3] = t.Actions[3][:1] }), false},
		{with(func(t *api.Table) { t.Actions[3] = nil }), false},
		{with(func(t *api.Table) { t.Actions[0] = make([]api.Action, 3) }), false},
		{with(func(t *api.Table) { t.Gotos[3] = nil }), false},
		{with(func(t *api.Table) { t.Gotos[0] = []int{1, 1} }), false},
		{alone(accept()), true}, {alone(api.Action{Kind: api.ActionAccept, N: 1}), false}, {alone(api.Action{Kind: api.ActionAccept, N: -1}), false},
		{alone(api.Action{N: 1}), false}, {alone(api.Action{N: -1}), false}, {alone(api.Action{N: math.MinInt}), false},
		{alone(api.Action{Kind: 4}), false}, {alone(api.Action{Kind: -1}), false}, {alone(api.Action{Kind: math.MaxInt}), false},
		{alone(shift(0)), true}, {alone(shift(1)), false}, {alone(shift(-1)), false}, {alone(shift(math.MaxInt)), false}, {alone(shift(math.MinInt)), false},
		{alone(reduce(0)), true}, {alone(reduce(255)), true}, {alone(reduce(256)), false}, {alone(reduce(-1)), false}, {alone(reduce(math.MaxInt)), false}, {alone(reduce(math.MinInt)), false},
		{alone(accept(), -1, 0), true}, {alone(accept(), 0, 1), false}, {alone(accept(), -2, 0), false}, {alone(accept(), math.MaxInt), false}, {alone(accept(), math.MinInt), false},
		{with(func(t *api.Table) { t.Actions[3][1] = shift(3) }), true},
		{with(func(t *api.Table) { t.Actions[3][1] = shift(4) }), false},
		{with(func(t *api.Table) { t.Gotos[3][0] = 3 }), true},
		{with(func(t *api.Table) { t.Gotos[3][0] = 4 }), false},
	} {
		if plainShaped(c.t) != c.ok {
			t.Fatalf("%d: the tests' own words say otherwise", i)
		}
		s := table.Encode(c.t)
		if s != plainImage(c.t) || (s != "") != c.ok {
			t.Errorf("13.4: %d: an image of %d bytes", i, len(s))
		}
		if tb, err := table.Decode(s); c.ok && (err != nil || !same(tb, c.t)) {
			t.Errorf("13.6: %d: %v", i, err)
		}
	}
}

// refused: fails unless the image is refused at the place, with nothing beside it.
func refused(t *testing.T, image string, at int) {
	t.Helper()
	tb, err := table.Decode(image)
	var b *api.Broken
	if !errors.As(err, &b) || b.Code != api.ErrImage || b.At != at || !errors.Is(err, api.ErrImage) || tb.Actions != nil || tb.Gotos != nil {
		t.Errorf("13.5: Decode(%v) of %d bytes: %v, want the place %d", []byte(image[:min(len(image), 40)]), len(image), err, at)
	}
}

func TestExamplesOfRefusals(t *testing.T) {
	refused(t, "", 0)
	refused(t, "T", 1)
	refused(t, "T\x02", 1)
	refused(t, "T\x01\x00", 2)
	refused(t, "T\x01\x81\x00\x01\x00\x00", 2)
	refused(t, smallImage+"\x00", 17)
	refused(t, smallImage[:16], 16)
	refused(t, smallImage[:6]+"\x0a"+smallImage[7:], 6)
	refused(t, smallImage[:13]+"\x05"+smallImage[14:], 13)
}

// What cannot be, at each place of an image.
func TestRefusals(t *testing.T) {
	full := strings.Repeat("\xff", 8) + "\x7f" // 2^63 - 1
	for _, c := range []struct {
		image string
		at    int
	}{
		{"U\x01" + smallImage[2:], 0},
		{"\x00", 0},
		{"\xd4\x01" + smallImage[2:], 0}, // 84 and 128
		{"T\x00" + smallImage[2:], 1},
		{"T\x81\x00" + smallImage[2:], 1},
		{"T\x01", 2},
		{"T\x01" + counts(2049, 1, 0), 2},
		{"T\x01" + counts(2048, 1), 5},
		{"T\x01" + counts(2048, 0, 0), 4},
		{"T\x01" + counts(1, 0, 0), 3},
		{"T\x01" + counts(1, 65, 0), 3},
		{"T\x01" + counts(1, 64, 129), 4},
		{"T\x01" + counts(1, 64, 128), 6},
		{"T\x01" + counts(1, 1, 0), 5},
		{"T\x01" + counts(1, 1, 0, 4), 5},       // a shift to 1
		{"T\x01" + counts(1, 1, 0, 2, 0), 6},    // one byte too many
		{"T\x01" + counts(1, 1, 0, 515), 5},     // a reduction by 256
		{"T\x01" + counts(1, 1, 1, 513, 2), 7},  // an entry 1
		{"T\x01" + counts(1, 2, 0, 0, 516), 6},  // a shift to 257
		{"T\x01" + counts(300, 1, 0, 602), 6},   // a shift to 300
		{"T\x01" + counts(300, 1, 0, 600), 8},   // one to 299: nothing is behind it
		{"T\x01" + counts(300, 1, 0, 513), 8},   // a reduction by 255
		{"T\x01" + counts(300, 1, 0, 515), 6},   // by 256, though there are 300 states
		{"T\x01" + counts(1, 1, 0) + "\x80", 5}, // a count that does not end
		{"T\x01" + counts(1, 1, 0) + "\x80\x80\x80", 5},
		{"T\x01" + counts(1, 1, 0) + "\x80\x00", 5}, // 0 is one byte
		{"T\x01" + counts(1, 1, 0) + "\x82\x00", 5},
		{"T\x01" + counts(1, 1, 0) + "\x82\x80\x00", 5},
		{"T\x01" + full, 2},
		{"T\x01\x01" + full, 3},
		{"T\x01\x01\x01" + full, 4},
		{"T\x01\x01\x01\x00" + full, 5},
		{"T\x01\x01\x01\x01\x00" + full, 6},
		{"T\x01" + strings.Repeat("\x80", 9) + "\x01", 2},             // 2^63
		{"T\x01\x81" + strings.Repeat("\x80", 8) + "\x01", 2},         // 2^63 + 1: 1 if a bit were lost
		{"T\x01\x81" + strings.Repeat("\x80", 8) + "\x02\x01\x00", 2}, // 2^64 + 1: likewise
		{"T\x01\x81" + strings.Repeat("\x80", 8) + "\x00\x01\x00", 2},
		{"T\x01\x01\x01\x00\x82" + strings.Repeat("\x80", 8) + "\x02", 5}, // 2^64 + 2
		{"T\x01\x01\x01\x00" + strings.Repeat("\xff", 30) + "\x01", 5},
		{"T\x01\x01\x01\x00" + strings.Repeat("\x80", 1<<20), 5},
		{smallImage + smallImage, 17},
		{smallImage + "\x80", 17},
	} {
		refused(t, c.image, c.at)
		if tb, at := plainRead(c.image); at != c.at || len(tb.Actions) != 0 {
			t.Errorf("the tests' own words refuse %v at %d", []byte(c.image[:min(len(c.image), 40)]), at)
		}
	}
}

// Counts of two bytes where they may stand.
func TestWideCounts(t *testing.T) {
	image := "T\x01" + counts(1, 1, 1, 513, 1)
	if tb, err := table.Decode(image); err != nil || !same(tb, alone(reduce(255), 0)) {
		t.Errorf("13.5: %+v, %v", tb, err)
	}
	for _, n := range []int{62, 63, 64, 127, 128, 129, 255, 256, 1023, 1024, 2047} {
		tb := wide(2048, 2, 1)
		tb.Actions[n][1], tb.Actions[0][0], tb.Gotos[n][0] = shift(n), reduce(min(n, 255)), n
		s := table.Encode(tb)
		if s != plainImage(tb) {
			t.Errorf("13.4: with %d: %d bytes", n, len(s))
		}
		if back, err := table.Decode(s); err != nil || !same(back, tb) {
			t.Errorf("13.6: with %d: %v", n, err)
		}
	}
}
