package query_test

import (
	"math/rand"
	"strings"
	"testing"

	"trellis/api"
	"trellis/query"
)

// 20.2, 20.3: what is no query, a row a kind.
func TestUnshaped(t *testing.T) {
	one := func(n api.PatNode) api.Query { return api.Query{Nodes: []api.PatNode{n}} }
	row := func(l ...api.PatNode) api.Query { return api.Query{Nodes: l} }
	cond := func(c api.Cond) api.Query {
		return api.Query{Nodes: []api.PatNode{{Capture: "x", Kids: 1}, {Capture: "y"}}, Conds: []api.Cond{c}}
	}
	many := make([]api.PatNode, 33)
	many[0].Kids = 32
	conds := cond(api.Cond{A: "x"})
	for range 16 {
		conds.Conds = append(conds.Conds, conds.Conds[0])
	}
	for name, q := range map[string]api.Query{
		"nothing": {}, "conditions alone": {Conds: []api.Cond{{}}}, "a child that is not there": one(api.PatNode{Kids: 1}), "less than no child": one(api.PatNode{Kids: -1}), "far too many": one(api.PatNode{Kids: 1 << 62}), "two roots": row(api.PatNode{}, api.PatNode{}), "one behind": row(api.PatNode{Kids: 1}, api.PatNode{}, api.PatNode{}), "numbers that cancel out": row(api.PatNode{Kids: 2}, api.PatNode{Kids: -1}, api.PatNode{}), "sums that wrap": row(api.PatNode{Kids: 1<<63 - 1}, api.PatNode{Kids: 1<<63 - 1}, api.PatNode{Kids: 4}), "33 nodes": {Nodes: many}, "17 conditions": conds,
		"a name _": one(api.PatNode{Name: "_"}), "a name that is none": one(api.PatNode{Name: "a-b"}), "a digit first": one(api.PatNode{Name: "9a"}), "a long name": one(api.PatNode{Name: strings.Repeat("a", 25)}), "a name with a line end": one(api.PatNode{Name: "a\n"}), "a name of other letters": one(api.PatNode{Name: "ä"}),
		"a string without a byte": one(api.PatNode{Lit: true}), "a string with a child": row(api.PatNode{Lit: true, Name: "x", Kids: 1}, api.PatNode{}), "a string with less": one(api.PatNode{Lit: true, Name: "x", Kids: -1}),
		"a field _": one(api.PatNode{Field: "_"}), "a field that is none": one(api.PatNode{Field: "a b"}), "a long field": one(api.PatNode{Field: strings.Repeat("a", 25)}), "a string's field": one(api.PatNode{Lit: true, Name: "x", Field: "_"}), "a child's field": row(api.PatNode{Kids: 1}, api.PatNode{Field: ":"}),
		"a capture _": one(api.PatNode{Capture: "_"}), "a capture that is none": one(api.PatNode{Capture: "@x"}), "a string's capture": one(api.PatNode{Lit: true, Name: "x", Capture: "1"}), "a capture twice": row(api.PatNode{Kids: 2}, api.PatNode{Capture: "x"}, api.PatNode{Lit: true, Name: "x", Capture: "x"}), "a child's that is the root's": row(api.PatNode{Kids: 1, Capture: "x"}, api.PatNode{Capture: "x"}),
		"a condition without A": cond(api.Cond{}), "with B alone": cond(api.Cond{B: "x"}), "with a text alone": cond(api.Cond{Text: "x"}), "with another A": cond(api.Cond{A: "z"}), "with another B": cond(api.Cond{A: "x", B: "z"}), "with B and a text": cond(api.Cond{A: "x", B: "y", Text: "x"}), "with another B and a text": cond(api.Cond{A: "x", B: "z", Text: "x"}), "with A _": cond(api.Cond{A: "_"}), "with B _": cond(api.Cond{A: "x", B: "_"}), "captures that nobody has": {Nodes: []api.PatNode{{}}, Conds: []api.Cond{{A: "x"}}},
	} {
		text, code := query.Print(q)
		if query.Shaped(q) || plainShaped(q) || text != "" || code != api.ErrQuery {
			t.Errorf("20.2, 20.3: %s: %v, %q, %d", name, query.Shaped(q), text, code)
		}
		if got := query.All(q, []api.Node{{Name: "a", Named: true, Kids: 1}, {}}, "a"); len(got) != 0 {
			t.Errorf("20.5: %s: %v", name, got)
		}
	}
}

// 20.2, 20.3: queries at the limits, and what they are written as.
func TestShaped(t *testing.T) {
	long := strings.Repeat("n", 24)
	many := make([]api.PatNode, 32)
	many[0].Kids = 31
	deep := make([]api.PatNode, 32)
	for i := range 31 {
		deep[i].Kids = 1
	}
	full := api.Query{Nodes: []api.PatNode{{Capture: "x"}}}
	for range 16 {
		full.Conds = append(full.Conds, api.Cond{A: "x"})
	}
	for _, c := range []struct {
		q    api.Query
		want string
	}{
		{api.Query{Nodes: []api.PatNode{{}}}, "( _ )"},
		{api.Query{Nodes: []api.PatNode{{Name: "call", Kids: 3}, {Name: "ident", Field: "name", Capture: "f"}, {Name: "(", Lit: true}, {Capture: "x"}}, Conds: []api.Cond{{A: "f", Text: "print"}}}, `( call name : ( ident ) @ f "(" ( _ ) @ x ) when @ f = "print"`},
		{api.Query{Nodes: []api.PatNode{{Name: "_", Lit: true, Field: "f", Capture: "c"}}, Conds: []api.Cond{{Not: true, A: "c", B: "c"}, {A: "c"}}}, `f : "_" @ c unless @ c = @ c when @ c = ""`},
		{api.Query{Nodes: []api.PatNode{{Name: "a\"\\\n\t\r\x00\x7f\xff", Lit: true}}}, `"a\"\\\n\t\r\x00\x7f\xff"`},
		{api.Query{Nodes: []api.PatNode{{Name: "__", Kids: 2, Capture: "x"}, {Field: "_a", Kids: 1}, {Name: "b"}, {Name: "c"}}}, `( __ _a : ( _ ( b ) ) ( c ) ) @ x`},
		{api.Query{Nodes: []api.PatNode{{Name: long, Field: long, Capture: long}}}, long + " : ( " + long + " ) @ " + long},
		{api.Query{Nodes: []api.PatNode{{Name: "when", Field: "unless", Capture: "when"}}, Conds: []api.Cond{{A: "when", Text: "when"}}}, `unless : ( when ) @ when when @ when = "when"`},
		{api.Query{Nodes: many}, "( _" + strings.Repeat(" ( _ )", 31) + " )"},
		{api.Query{Nodes: deep}, strings.Repeat("( _ ", 32) + strings.TrimSpace(strings.Repeat(") ", 32))},
		{full, "( _ ) @ x" + strings.Repeat(` when @ x = ""`, 16)},
		{api.Query{Nodes: []api.PatNode{{Name: strings.Repeat("a", 1<<16), Lit: true}}}, `"` + strings.Repeat("a", 1<<16) + `"`},
	} {
		if got, code := query.Print(c.q); !query.Shaped(c.q) || got != c.want || code != api.OK {
			t.Errorf("20.2, 20.3: %+v: %v, %q, %d", c.q, query.Shaped(c.q), got, code)
		}
	}
}

// checkShaped: Shaped and Print, held against the model.
func checkShaped(t *testing.T, q api.Query) bool {
	t.Helper()
	text, code := query.Print(q)
	if !plainShaped(q) {
		if query.Shaped(q) || text != "" || code != api.ErrQuery {
			t.Fatalf("20.2, 20.3: %+v: %v, %q, %d", q, query.Shaped(q), text, code)
		}
		return false
	}
	if want := plainPrint(q); !query.Shaped(q) || text != want || code != api.OK {
		t.Fatalf("20.2, 20.3: %+v: %v, %q, %d, want %q", q, query.Shaped(q), text, code, want)
	}
	return true
}

// 20.2, 20.3: queries of all kinds, and ones in which something is amiss.
func TestShapedRandom(t *testing.T) {
	r := rand.New(rand.NewSource(204))
	seen := map[string]int{}
	for i := range 30000 {
		q := randomQuery(r, pick(r, 3, 8, 32), pick(r, 2, 16))
		for range i % 4 {
			q = spoiltQuery(r, q)
		}
		if checkShaped(t, q) {
			seen["shaped"]++
		} else {
			seen["unshaped"]++
		}
	}
	enough(t, seen, 5000, "shaped", "unshaped")
}

// 20.2: all lists of few nodes, by how many children they have.
func TestShapedAllSmall(t *testing.T) {
	trees := 0
	var row func(l []api.PatNode, n int)
	row = func(l []api.PatNode, n int) {
		if checkShaped(t, api.Query{Nodes: l}) {
			trees++
		}
		for kids := -1; kids < 5 && n > 0; kids++ {
			row(append(l, api.PatNode{Kids: kids}), n-1)
		}
	}
	row(nil, 5)
	if trees != 1+1+2+5+14 {
		t.Errorf("20.2: %d trees", trees)
	}
}

// 20.6: what is written is read as what it was.
func TestBack(t *testing.T) {
	r := rand.New(rand.NewSource(206))
	for range 20000 {
		q := randomQuery(r, pick(r, 3, 8, 32), pick(r, 2, 16))
		text, code := query.Print(q)
		if got := read(text); code != api.OK || !same(got, answer{query: q}) {
			t.Fatalf("20.6: Print(%+v) = %q, which is read as %+v", q, text, got)
		}
	}
}

// 20.6: what is read is well shaped, and is written as what is read as it again.
func TestBackFromTexts(t *testing.T) {
	r := rand.New(rand.NewSource(207))
	count := 0
	for i := range 20000 {
		l := plainWords(randomQuery(r, 8, 4))
		for range i % 4 {
			l = spoilt(r, l)
		}
		text, _ := laid(r, l)
		got := read(text)
		if got.code != api.OK {
			continue
		}
		count++
		again, code := query.Print(got.query)
		if !query.Shaped(got.query) || code != api.OK || !same(read(again), got) {
			t.Fatalf("20.6: Parse(%q) = %+v, which is written as %q, %d", text, got, again, code)
		}
		if twice, _ := query.Print(read(again).query); twice != again {
			t.Fatalf("20.6: %q is written as %q", again, twice)
		}
	}
	if count < 5000 {
		t.Errorf("20.6: only %d are read", count)
	}
}

// 20.6: a text that is written may be too long to be read, by one byte.
func TestBackLong(t *testing.T) {
	for _, n := range []int{api.MaxDefn, api.MaxDefn + 1} {
		q := api.Query{Nodes: []api.PatNode{{Name: strings.Repeat("a", n-2), Lit: true}}}
		text, code := query.Print(q)
		if len(text) != n || code != api.OK || !query.Shaped(q) {
			t.Fatalf("20.3: %d bytes, %d", len(text), code)
		}
		want := answer{query: q}
		if n > api.MaxDefn {
			want = answer{code: api.ErrLong, place: api.MaxDefn}
		}
		if got := read(text); !same(got, want) {
			t.Errorf("20.6: %d bytes: %d at %d", n, got.code, got.place)
		}
	}
	text := `"` + strings.Repeat("\xff", 9000) + `"`
	got := read(text)
	if again, code := query.Print(got.query); got.code != api.OK || code != api.OK || len(again) != 2+4*9000 {
		t.Errorf("20.6: read with %d, written with %d as %d bytes", got.code, code, len(again))
	}
}
