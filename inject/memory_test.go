package inject_test

import (
	"math"
	"math/rand"
	"reflect"
	"slices"
	"strings"
	"testing"
	"time"
	"unsafe"

	"trellis/api"
	"trellis/inject"
)

// lent: a text whose bytes the test may write over, as nobody else does.
func lent(s string) (string, func()) {
	b := []byte(s)
	return unsafe.String(unsafe.SliceData(b), len(b)), func() { filled(b, '#') }
}

// overlaps: have the two texts a byte of memory in common?
func overlaps(a, b string) bool {
	x, y := uintptr(unsafe.Pointer(unsafe.StringData(a))), uintptr(unsafe.Pointer(unsafe.StringData(b)))
	return a != "" && b != "" && x < y+uintptr(len(b)) && y < x+uintptr(len(a))
}

// filled: all of the list's room is written into.
func filled[T any](l []T, x T) {
	l = l[:cap(l)]
	for i := range l {
		l[i] = x
	}
}

// copied: a value with lists of its own, each with so much spare room; -1: with all of the old ones' spare room as its length.
func copied(v reflect.Value, spare int) reflect.Value {
	out := reflect.New(v.Type()).Elem()
	switch v.Kind() {
	case reflect.Slice:
		n := v.Len()
		if spare < 0 {
			n = v.Cap()
		}
		out = reflect.MakeSlice(v.Type(), n, n+max(spare, 0))
		for i := range n {
			out.Index(i).Set(copied(v.Slice(0, n).Index(i), spare))
		}
	case reflect.Struct:
		for i := range v.NumField() {
			out.Field(i).Set(copied(v.Field(i), spare))
		}
	default:
		out.Set(v)
	}
	return out
}

// roomy: a copy with spare room in all its lists. whole: one that has what is in the spare room, too.
func roomy[T any](x T) T { return copied(reflect.ValueOf(x), 2).Interface().(T) }
func whole[T any](x T) T { return copied(reflect.ValueOf(x), -1).Interface().(T) }

// wiped: all of the layers' room is written into.
func wiped(l []api.Layer) {
	for _, x := range l {
		filled(x.Result.Leaves, api.Leaf{Term: 9, Pad: -1, After: "wiped"})
		filled(x.Result.Nodes, api.Node{Name: "wiped", Kids: 7})
	}
	filled(l, api.Layer{Lang: "wiped", From: -1, Depth: 9})
}

// asking: what the calls are handed.
type asking struct {
	langs      []api.Lang
	name, text string
}

// answers: what they say.
type answers struct {
	layers []api.Layer
	code   api.Errno
	spans  []api.Span
}

func (a asking) asked() answers {
	l, code := inject.Parse(a.langs, a.name, a.text)
	return answers{l, code, inject.Spans(a.langs, l)}
}

func (a answers) same(b answers) bool {
	return sameLayers(a.layers, b.layers) && a.code == b.code && slices.Equal(a.spans, b.spans)
}

// checkStays: asking changes nothing of what is handed in.
func (a asking) checkStays(t *testing.T) answers {
	t.Helper()
	langs := whole(a.langs)
	l, code := inject.Parse(a.langs, a.name, a.text)
	if !reflect.DeepEqual(whole(a.langs), langs) {
		t.Fatalf("P2: Parse of %q has changed the languages", a.text)
	}
	mine := roomy(l)
	before := whole(mine)
	spans := inject.Spans(a.langs, mine)
	if !reflect.DeepEqual(whole(mine), before) || !reflect.DeepEqual(whole(a.langs), langs) {
		t.Fatalf("P2: Spans of %q has changed something", a.text)
	}
	wiped(mine)
	return answers{l, code, spans}
}

// checkApart: the answers share no list and no text with others, nor with each other, spare room too.
func checkApart(t *testing.T, a asking, one, two answers) {
	t.Helper()
	for i, x := range one.layers {
		if overlaps(x.Lang, a.name) || overlaps(x.Lang, two.layers[i].Lang) || slices.ContainsFunc(a.langs, func(l api.Lang) bool { return overlaps(x.Lang, l.Name) }) {
			t.Fatalf("P2: %q: the name %s is no new memory", a.text, x.Lang)
		}
		kept := roomy(one.layers)
		filled(x.Result.Leaves, api.Leaf{Term: 9})
		filled(x.Result.Nodes, api.Node{Kids: 7})
		kept[i] = one.layers[i]
		if !sameLayers(one.layers, kept) {
			t.Fatalf("P2: %q: layer %d shares memory with another one", a.text, i)
		}
	}
}

// P2, P3: nothing that is handed in is changed or kept, nothing that is handed out is held; the same is answered again.
func TestMemory(t *testing.T) {
	r := rand.New(rand.NewSource(2420))
	all := anyLangs(t, r, 200)
	layers, spans := 0, 0
	for range 1500 {
		a := asking{someOf(r, all), pick(r, "x", "y", "z"), anyText(r, r.Intn(9))}
		want := a.asked()
		name, spoilName := lent(a.name)
		text, spoilText := lent(a.text)
		mine := asking{roomy(a.langs), name, text}
		got := mine.checkStays(t)
		again := mine.asked()
		spoilName()
		spoilText()
		filled(mine.langs, api.Lang{Name: "wiped"}) // the list is not kept
		if !got.same(want) || !again.same(want) {
			t.Fatalf("P2: %+v: behind writing into it %+v, %+v, want %+v", a, got, again, want)
		}
		checkApart(t, mine, got, again)
		wiped(got.layers)
		filled(got.spans, api.Span{From: -1, Class: "wiped"})
		if !again.same(want) || !a.asked().same(want) {
			t.Fatalf("P2, P3: %+v: then %+v, want %+v", a, again, want)
		}
		layers, spans = layers+len(want.layers), spans+len(want.spans)
	}
	if layers < 2000 || spans < 500 {
		t.Errorf("only %d layers, %d spans", layers, spans)
	}
}

// P3: what a call answers hangs on no other call, nor on languages that nothing names.
func TestNothingElseCounts(t *testing.T) {
	r := rand.New(rand.NewSource(2421))
	all := anyLangs(t, r, 100)
	others := allLoaded(t, outer, pairs, `language w; token w /[a-z]+/; rule s = w; inject w x; paint w "w";`)
	for range 1000 {
		langs := someOf(r, all)
		a := asking{langs, pick(r, namesOf(langs)...), anyText(r, r.Intn(9))}
		want := a.asked()
		more := slices.Concat(others[:r.Intn(3)], langs, others, langs)
		if got := (asking{more, a.name, a.text}).asked(); !got.same(want) {
			t.Fatalf("P3: %v, %v: %s, %q: %+v, want %+v", namesOf(langs), namesOf(more), a.name, a.text, got, want)
		}
	}
}

// soon: fails if a call takes long.
func soon(t *testing.T, name string, call func()) {
	t.Helper()
	done := make(chan bool)
	go func() { defer close(done); call() }()
	select {
	case <-done:
	case <-time.After(2 * time.Minute):
		t.Fatalf("P1: %s: no end", name)
	}
}

// P1, 24.4: the longest texts, with as many layers as there may be of them.
func TestHuge(t *testing.T) {
	lines := `token l /[^\n]+/; skip /\n/; rule s = l*; paint l "line"; inject l `
	l := allLoaded(t,
		`language lines; `+lines+`words;`, `language same; `+lines+`same;`,
		`language words; token w /[a-z]/; token o /[^a-z]/; rule s = (w | o)*; inject w letter; paint w "word"; paint o "";`,
		`language letter; token x /[a-f]/; token y /[g-z]/; rule s = (x | y)*; inject x letter; paint x "x"; paint y "";`,
		`language nest; token a /a/; rule s = "(" s ")" | a; inject a letter; inject s nest; paint "(" "sign";`,
		`language chain; token a /a/; rule s = a s | (); inject a letter; paint s "tail";`,
	)
	row := strings.Repeat("a", 15) + "\n"
	for _, c := range []struct {
		name, text    string
		layers, spans int
	}{
		{"lines", strings.Repeat(row, 1<<13), 1 + 1<<13 + 2*15<<13, 1 << 13},
		{"same", strings.Repeat(row, 1<<16), 1 + 3<<16, 1 << 16},
		{"letter", strings.Repeat("ag", 1<<15), 1 + 3<<15, 1 << 15},
		{"letter", strings.Repeat("a", 1<<20), 1 + 3<<16, 1}, // refused behind as many leaves as there may be
		{"chain", strings.Repeat("a", 1<<16), 1 + 3<<16, 1},
		{"nest", strings.Repeat("(", 32767) + "a" + strings.Repeat(")", 32767), 4, 1},
		{"nest", strings.Repeat("(", 1<<16), 1, 1},
	} {
		soon(t, c.name, func() {
			x, code := inject.Parse(l, c.name, c.text)
			spans := inject.Spans(l, x)
			if code != api.OK || len(x) != c.layers || len(spans) != c.spans {
				t.Errorf("24.1, 24.2: %s, %d bytes: %d, %d layers, want %d, %d spans, want %d", c.name, len(c.text), code, len(x), c.layers, len(spans), c.spans)
			}
		})
	}
}

// broken: something of a language is another thing.
func broken(r *rand.Rand, l *api.Lang) {
	g, t := &l.Gram, &l.Table
	number := func() int { return pick(r, r.Intn(8), r.Intn(40), -1, math.MaxInt, math.MinInt) }
	actions, gotos := pick(r, t.Actions...), pick(r, t.Gotos...)
	switch r.Intn(6) {
	case 0, 1:
		if len(actions) > 0 {
			actions[r.Intn(len(actions))] = api.Action{Kind: api.ActionKind(r.Intn(6) - 1), N: number()}
		}
	case 2:
		if len(gotos) > 0 {
			gotos[r.Intn(len(gotos))] = number()
		}
	case 3:
		p := &g.Prods[r.Intn(len(g.Prods))]
		p.Lhs, p.Rhs = number(), append(p.Rhs[:r.Intn(len(p.Rhs)+1)], make([]api.Ref, r.Intn(3))...)
	case 4:
		l.Rules[r.Intn(len(l.Rules))].Term = number()
	case 5:
		g.Terms, g.Syms = g.Terms[:r.Intn(len(g.Terms)+1)], g.Syms[:r.Intn(len(g.Syms)+1)]
	}
}

// P1: values that are no languages.
func TestNoLanguages(t *testing.T) {
	r := rand.New(rand.NewSource(2422))
	all := anyLangs(t, r, 100)
	for _, langs := range [][]api.Lang{{{}}, {{}, {}}, {{Name: "x", Injects: []api.InjectDef{{Lang: "x"}}}}} {
		for _, text := range []string{"", "a", "'a' b"} {
			asking{langs, langs[0].Name, text}.asked()
		}
	}
	layers := 0
	soon(t, "no languages", func() {
		for range 3000 {
			langs := roomy(someOf(r, all))
			for i := range langs {
				if langs[i].Injects = append(langs[i].Injects, api.InjectDef{Name: "", Lang: pick(r, "x", "y", "z")}); r.Intn(3) > 0 {
					broken(r, &langs[i])
				}
			}
			for _, name := range []string{"x", "y", "z"} {
				layers += len(asking{langs, name, anyText(r, r.Intn(9))}.asked().layers)
			}
		}
	})
	if layers < 10000 {
		t.Errorf("only %d layers", layers)
	}
}

// P1: lists of layers that Parse does not answer, or not of these languages.
func TestNoLayers(t *testing.T) {
	r := rand.New(rand.NewSource(2423))
	all := anyLangs(t, r, 100)
	number := func() int { return pick(r, r.Intn(9), r.Intn(9), r.Intn(9), -1, -5, math.MaxInt, math.MinInt) }
	soon(t, "no layers", func() {
		for range 3000 {
			langs := someOf(r, all)
			l, _ := inject.Parse(langs, langs[0].Name, anyText(r, r.Intn(9)))
			inject.Spans(someOf(r, all), l)
			for range 1 + r.Intn(4) {
				x := &l[r.Intn(len(l))]
				switch nodes := x.Result.Nodes; r.Intn(6) {
				case 0:
					x.From, x.To = number(), number()
				case 1:
					x.Depth = number()
				case 2:
					x.In = number()
				case 3:
					x.Lang = pick(r, "x", "y", "", "nobody")
				case 4:
					l = append(l, *x)
				case 5:
					if len(nodes) > 0 {
						n := &nodes[r.Intn(len(nodes))]
						n.From, n.To = number(), number()
						n.Kids = pick(r, n.Kids, n.Kids, number())
					}
				}
			}
			r.Shuffle(len(l)*r.Intn(2), func(i, j int) { l[i], l[j] = l[j], l[i] })
			inject.Spans(langs, l)
		}
		inject.Spans(nil, []api.Layer{{}, {Depth: 3}, {Lang: "x", From: 3, To: 1}})
	})
}
