package inject_test

import (
	"math/rand"
	"slices"
	"strings"
	"testing"

	"trellis/api"
	"trellis/inject"
)

// base: what is between a definition's name and its inject and paint lines; what its nodes are called, and its literals.
type base struct {
	lines string
	names []string
	lits  []string
}

// bases: languages over the same bytes, whose trees have all that a tree can have: hidden parts, other names, nodes without a byte, no root and several.
func bases() []base {
	return []base{
		{`token w /[a-z]+/; skip / +/; rule s = w*;`, []string{"s", "w"}, nil},
		{`token str /'[^']*'/; token w /[a-z]+/; skip /[ ,]+/; rule s = (w | str)*;`, []string{"s", "w", "str"}, nil},
		{`token q /'/; token w /[a-z]/; skip / +/; rule s = q w* q;`, []string{"s", "w", "q"}, nil},
		{`token w /[a-z]+/; skip / +/; rule s = p*; rule p = w | "(" p* ")";`, []string{"s", "p", "w"}, []string{"(", ")"}},
		{`token c /[^,]/; rule _s = c*;`, []string{"c"}, nil},
		{`token l /[^,]+/; skip /,/; rule _s = l*;`, []string{"l"}, nil},
		{`token b /\([^)]*\)/; token q /'[^']*'/; token o /[^()']/; rule s = (b | q | o)*;`, []string{"s", "b", "q", "o"}, nil},
		{`token _q /'/; token w /[a-z]/; skip / /; rule s = (_q @ n | w @ m | p)*; rule p = e "(" s ")" e; rule e = ();`, []string{"s", "n", "m", "p", "e"}, []string{"("}},
		{`token a /[a-z]/; skip / +/; rule s = a (() | "," s | "(" t ")"); rule t = "'" _u @ u "'"; rule _u = a | s a | ();`, []string{"s", "a", "t", "u"}, []string{",", "'"}},
	}
}

// bits: what the texts are made of.
func bits() []string { return []string{"a", "b", "'", "(", ")", " ", ","} }

// anyDefn: a definition with inject and paint lines as they come, of a language called x, y or z.
func anyDefn(r *rand.Rand) string {
	b := pick(r, bases()...)
	text := "language " + pick(r, "x", "y", "z") + "; " + b.lines
	for _, n := range b.names {
		if r.Intn(3) > 0 && (n != "s" || r.Intn(3) == 0) { // what is in it would not be taken
			text += " inject " + n + " " + pick(r, "x", "y", "z", "x", "y", "z", "nobody") + ";"
		}
		if r.Intn(3) > 0 {
			text += " paint " + n + ` "` + pick(r, "", "one", "two", "three") + `";`
		}
	}
	for _, n := range b.lits {
		if r.Intn(2) == 0 {
			text += ` paint "` + n + `" "` + pick(r, "", "one", "two") + `";`
		}
	}
	return text
}

// anyLangs: many languages of few names.
func anyLangs(t *testing.T, r *rand.Rand, n int) []api.Lang {
	t.Helper()
	var out []api.Lang
	for range n {
		out = append(out, loaded(t, anyDefn(r)))
	}
	return out
}

// someOf: a few of the languages.
func someOf(r *rand.Rand, l []api.Lang) []api.Lang {
	var out []api.Lang
	for range 1 + r.Intn(5) {
		out = append(out, pick(r, l...))
	}
	return out
}

// anyText: bytes as they come, some of them in brackets and quotes.
func anyText(r *rand.Rand, n int) string {
	var out []string
	for range n {
		out = append(out, pick(r, append(bits(), "ab", "'a b'", "'(a'", "(a)", "(a(b)", "('a' 'b')", "('a,)", "a,b", "?")...))
	}
	return strings.Join(out, "")
}

// note: what kinds of layers have come up.
func note(seen map[string]int, l []api.Layer, spans []api.Span) {
	for i, x := range l {
		kind := "a layer"
		if x.Result.Code != api.OK {
			kind = "a refused layer"
		}
		seen[kind+" of depth "+string(rune('0'+x.Depth))]++
		if i > 0 && l[x.In].Result.Code != api.OK {
			seen["in a refused layer"]++
		}
		if i > 0 && l[i-1].In == x.In && l[i-1].To == x.From {
			seen["touching"]++
		}
	}
	if len(l) == 1 {
		seen["alone"]++
	}
	if len(spans) > 2 {
		seen["spans"]++
	}
}

// 24.1 to 24.5: lists of languages as they come.
func TestAny(t *testing.T) {
	r := rand.New(rand.NewSource(241))
	all := anyLangs(t, r, 300)
	seen := map[string]int{}
	for range 6000 {
		langs := someOf(r, all)
		for range 3 {
			l, spans := check(t, langs, pick(r, namesOf(langs)...), anyText(r, r.Intn(9)))
			note(seen, l, spans)
		}
		for _, name := range []string{"x", "y", "z", "nobody"} {
			check(t, langs, name, anyText(r, r.Intn(2)))
		}
	}
	enough(t, 1000, seen, "a layer of depth 0", "a layer of depth 1", "a layer of depth 2", "a layer of depth 3", "a refused layer of depth 1", "in a refused layer", "touching", "alone", "spans")
	enough(t, 100, seen, "a refused layer of depth 2", "a refused layer of depth 3") // of few bytes, so most are not refused
}

// allTexts: all texts of up to so many bits.
func allTexts(n int) []string {
	out := []string{""}
	for from := 0; n > 0; n-- {
		to := len(out)
		for _, text := range out[from:to] {
			for _, b := range bits() {
				out = append(out, text+b)
			}
		}
		from = to
	}
	return out
}

// 24.1 to 24.5: all small texts.
func TestSmall(t *testing.T) {
	texts := allTexts(4)
	for _, langs := range [][]api.Lang{
		allLoaded(t, outer, inner), allLoaded(t, pairs, bytes, self), allLoaded(t, bytes, self),
		anyLangs(t, rand.New(rand.NewSource(242)), 3), anyLangs(t, rand.New(rand.NewSource(243)), 3), anyLangs(t, rand.New(rand.NewSource(244)), 3),
	} {
		for _, text := range texts {
			check(t, langs, langs[0].Name, text)
		}
	}
}

// groups: by layer of depth 1 it and what is in it, as if it stood at the beginning of a text and a list.
func groups(l []api.Layer) [][]api.Layer {
	var out [][]api.Layer
	head := 0
	for i, x := range l {
		if x.Depth == 0 {
			continue
		}
		if x.Depth == 1 {
			head, out = i, append(out, nil)
		}
		x.From, x.To, x.In = x.From-l[head].From, x.To-l[head].From, x.In-head
		if x.Depth == 1 {
			x.In = 0
		}
		out[len(out)-1] = append(out[len(out)-1], x)
	}
	return out
}

// heads: by place the number of a layer of depth 1 among these.
func heads(l []api.Layer) map[api.Range]int {
	out := map[api.Range]int{}
	for _, x := range l {
		if x.Depth == 1 {
			out[api.Range{From: x.From, To: x.To}] = len(out)
		}
	}
	return out
}

// outside: an edit that touches no layer of depth 1; false: there is no room for one.
func outside(r *rand.Rand, l []api.Layer, n int) (api.Edit, bool) {
	at := r.Intn(n + 1)
	e := api.Edit{At: at, Del: min(r.Intn(3), n-at), Ins: anyText(r, r.Intn(3))}
	for _, x := range l {
		if x.Depth == 1 && e.At < x.To && e.At+e.Del > x.From {
			return api.Edit{}, false
		}
	}
	return e, true
}

// 24.6: what is left standing of the outermost layer has the same in it.
func TestInnerStays(t *testing.T) {
	r := rand.New(rand.NewSource(246))
	all := anyLangs(t, r, 300)
	seen := map[string]int{}
	for range 20000 {
		langs, text := someOf(r, all), anyText(r, 3+r.Intn(9))
		name := langs[0].Name
		was, _ := inject.Parse(langs, name, text)
		e, ok := outside(r, was, len(text))
		if !ok {
			continue
		}
		now, _ := inject.Parse(langs, name, text[:e.At]+e.Ins+text[e.At+e.Del:])
		old, inner, behind := heads(was), groups(was), groups(now)
		for p, i := range heads(now) {
			if p.From < e.At+len(e.Ins) && p.To > e.At {
				continue // with new bytes
			}
			moved := 0
			if p.From >= e.At+len(e.Ins) {
				moved = len(e.Ins) - e.Del
			}
			j, ok := old[api.Range{From: p.From - moved, To: p.To - moved}]
			if !ok || inner[j][0].Lang != behind[i][0].Lang {
				continue
			}
			if !sameLayers(inner[j], behind[i]) {
				t.Fatalf("24.6: %v: %s: %q, %+v: at %v %+v, want %+v", namesOf(langs), name, text, e, p, behind[i], inner[j])
			}
			seen["stays"]++
			if moved != 0 {
				seen["moved"]++
			}
			if len(behind[i]) > 2 {
				seen["with others in it"]++
			}
			if i != j {
				seen["of another number"]++
			}
		}
	}
	enough(t, 1000, seen, "stays", "moved", "with others in it")
	enough(t, 300, seen, "of another number")
}

// 24.6 of texts: words around strings are other ones.
func TestWordsAround(t *testing.T) {
	r := rand.New(rand.NewSource(247))
	langs := allLoaded(t, outer, `language inner; token q /'/; token w /[a-z]+/; token o /[(),]/; skip / +/; rule s = q (w | o)* q; inject w self;`, self)
	for range 300 {
		strs := []string{"'a b'", "'" + strings.ReplaceAll(anyText(r, 4), "'", "") + "'", "''"}
		around := func() []string {
			return []string{pick(r, "", "a", "a b "), pick(r, "", " ", "b"), pick(r, "", "abc a"), pick(r, "", "  ", "a")}
		}
		made := func(a []string) []api.Layer {
			l, _ := check(t, langs, "outer", a[0]+strs[0]+a[1]+strs[1]+a[2]+strs[2]+a[3])
			return l
		}
		one, two := made(around()), made(around())
		if !slices.EqualFunc(groups(one), groups(two), sameLayers) || len(groups(one)) != 3 && one[0].Result.Code == api.OK {
			t.Fatalf("24.6: %q: %v, %v", strs, places(one), places(two))
		}
	}
}

// within: a layer and what is in it, as if it were the outermost one; not in which place of the list each stands.
func within(l []api.Layer, head int) []api.Layer {
	var out []api.Layer
	for i, x := range l[head:] {
		if i > 0 && x.Depth <= l[head].Depth {
			break
		}
		x.From, x.To, x.In, x.Depth = x.From-l[head].From, x.To-l[head].From, 0, x.Depth-l[head].Depth
		out = append(out, x)
	}
	return out
}

// 24.3: a layer knows nothing of the text around it: there is in it what its bytes alone have, up to the depth that there may be.
func TestEachForItself(t *testing.T) {
	r := rand.New(rand.NewSource(248))
	all := anyLangs(t, r, 200)
	seen := map[string]int{}
	for range 4000 {
		langs, text := someOf(r, all), anyText(r, r.Intn(9))
		l, _ := inject.Parse(langs, langs[0].Name, text)
		for i, x := range l {
			alone, _ := inject.Parse(langs, x.Lang, text[x.From:x.To])
			want := slices.DeleteFunc(within(alone, 0), func(y api.Layer) bool { return y.Depth+x.Depth > deepest })
			if got := within(l, i); !sameLayers(got, want) {
				t.Fatalf("24.3: %q: %v: in layer %d %+v, want %+v", text, places(l), i, got, want)
			}
			if len(want) > 1 && x.Depth > 0 {
				seen["layers in inner ones"]++
			}
			if len(want) < len(alone) {
				seen["too deep"]++
			}
		}
	}
	enough(t, 1000, seen, "layers in inner ones", "too deep")
}
