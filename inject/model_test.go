package inject_test

import (
	"math/rand"
	"slices"
	"testing"

	"trellis/api"
	"trellis/inject"
	"trellis/load"
	"trellis/paint"
	"trellis/parse"
	"trellis/tree"
)

// What the tests of this package share: the chapter's words told plainly.

// deepest: the depth of layers that take nothing out.
const deepest = 3

// called: the first language of a list that is called so.
func called(langs []api.Lang, name string) (api.Lang, bool) {
	for _, l := range langs {
		if l.Name == name {
			return l, true
		}
	}
	return api.Lang{}, false
}

// plainPart: a part of a text that is of a language.
type plainPart struct {
	lang     api.Lang
	from, to int
}

// plainTaken: what is taken out of the nodes at some places of a list, and below them.
func plainTaken(langs []api.Lang, l api.Lang, nodes []api.Node, places []int) []plainPart {
	var out []plainPart
	for _, i := range places {
		n := nodes[i]
		inner, ok := plainInner(langs, l, n)
		if ok && n.Named && n.From < n.To {
			out = append(out, plainPart{inner, n.From, n.To})
		} else {
			out = append(out, plainTaken(langs, l, nodes, tree.Kids(nodes, i))...)
		}
	}
	return out
}

// plainInner: the language of the first inject line that has a node's name.
func plainInner(langs []api.Lang, l api.Lang, n api.Node) (api.Lang, bool) {
	for _, d := range l.Injects {
		if d.Name == n.Name {
			return called(langs, d.Lang)
		}
	}
	return api.Lang{}, false
}

// plainRoots: the places of a list's roots.
func plainRoots(nodes []api.Node) []int {
	var out []int
	for i := 0; i < len(nodes); i += tree.Size(nodes, i) {
		out = append(out, i)
	}
	return out
}

// plainLayers: a part's layer and what is in it, behind those that there are.
func plainLayers(langs []api.Lang, text string, p plainPart, in, depth int, out []api.Layer) []api.Layer {
	r := parse.Parse(p.lang, text[p.from:p.to])
	at := len(out)
	out = append(out, api.Layer{Lang: p.lang.Name, From: p.from, To: p.to, Result: r, In: in, Depth: depth})
	if depth < deepest {
		for _, x := range plainTaken(langs, p.lang, r.Nodes, plainRoots(r.Nodes)) {
			out = plainLayers(langs, text, plainPart{x.lang, p.from + x.from, p.from + x.to}, at, depth+1, out)
		}
	}
	return out
}

// plainParse: by the words of 24.1.
func plainParse(langs []api.Lang, name, text string) ([]api.Layer, api.Errno) {
	l, ok := called(langs, name)
	if !ok {
		return nil, api.ErrLang
	}
	if len(text) > 1<<20 {
		return nil, api.ErrBig
	}
	return plainLayers(langs, text, plainPart{l, 0, len(text)}, -1, 0, nil), api.OK
}

// plainClass: by the words of 24.2.
func plainClass(langs []api.Lang, l []api.Layer, at int) string {
	class, depth := "", -1
	for _, x := range l {
		if x.Depth < depth || at < x.From || at >= x.To {
			continue
		}
		lang, _ := called(langs, x.Lang)
		if c := paint.Class(lang, x.Result.Nodes, at-x.From); c != "" {
			class, depth = c, x.Depth
		}
	}
	return class
}

// plainSpans: the bytes of a text that have a class.
func plainSpans(langs []api.Lang, l []api.Layer, n int) []api.Span {
	var out []api.Span
	last := ""
	for at := range n {
		class := plainClass(langs, l, at)
		switch {
		case class == "":
		case class == last:
			out[len(out)-1].To++
		default:
			out = append(out, api.Span{From: at, To: at + 1, Class: class})
		}
		last = class
	}
	return out
}

// same: with nil and empty lists alike.
func same(a, b api.Result) bool {
	return a.Code == b.Code && a.At == b.At && a.Want == b.Want && a.Roots == b.Roots && slices.Equal(a.Leaves, b.Leaves) && slices.Equal(a.Nodes, b.Nodes)
}

func sameLayer(a, b api.Layer) bool {
	return a.Lang == b.Lang && a.From == b.From && a.To == b.To && a.In == b.In && a.Depth == b.Depth && same(a.Result, b.Result)
}

func sameLayers(a, b []api.Layer) bool { return slices.EqualFunc(a, b, sameLayer) }

// place: what a layer is, without its parse.
type place struct {
	lang                string
	from, to, in, depth int
}

func places(l []api.Layer) []place {
	var out []place
	for _, x := range l {
		out = append(out, place{x.Lang, x.From, x.To, x.In, x.Depth})
	}
	return out
}

// namesOf: what the languages of a list are called.
func namesOf(langs []api.Lang) []string {
	var out []string
	for _, l := range langs {
		out = append(out, l.Name)
	}
	return out
}

// check: the layers and the spans of a text, held against the words of 24.1 and 24.2, and 24.3 to 24.5.
func check(t *testing.T, langs []api.Lang, name, text string) ([]api.Layer, []api.Span) {
	t.Helper()
	l, code := inject.Parse(langs, name, text)
	want, wanted := plainParse(langs, name, text)
	if code != wanted || !sameLayers(l, want) {
		t.Fatalf("24.1: %v: Parse(%s, %q) = %v, %d, want %v, %d; %+v, want %+v", namesOf(langs), name, text, places(l), code, places(want), wanted, l, want)
	}
	if code != api.OK {
		return nil, nil
	}
	checkPlaces(t, langs, text, l)
	spans := inject.Spans(langs, l)
	if want := plainSpans(langs, l, len(text)); !slices.Equal(spans, want) {
		t.Fatalf("24.2: %v: %s, %q: %v: %v, want %v", namesOf(langs), name, text, places(l), spans, want)
	}
	checkAlone(t, langs, l, spans)
	return l, spans
}

// checkPlaces: 24.3 and 24.4.
func checkPlaces(t *testing.T, langs []api.Lang, text string, l []api.Layer) {
	t.Helper()
	bytes := [deepest + 1]int{}
	ends := make([]int, len(l)) // by layer where the last one in it ends
	for i, x := range l {
		lang, ok := called(langs, x.Lang)
		if !ok || !same(x.Result, parse.Parse(lang, text[x.From:x.To])) {
			t.Fatalf("24.3: %q: layer %d: %+v", text, i, x)
		}
		if i == 0 {
			ok = x.From == 0 && x.To == len(text) && x.In == -1 && x.Depth == 0
		} else {
			ok = x.In >= 0 && x.In < i && x.Depth == l[x.In].Depth+1 && x.From < x.To && x.To <= l[x.In].To && x.From >= max(l[x.In].From, ends[x.In])
			if ok {
				ends[x.In] = x.To
			}
		}
		if !ok || x.Depth > deepest {
			t.Fatalf("24.4: %q: layer %d of %v", text, i, places(l))
		}
		bytes[x.Depth] += x.To - x.From
	}
	if slices.Max(bytes[:]) > len(text) {
		t.Fatalf("24.4: %q: %v bytes: %v", text, bytes, places(l))
	}
}

// checkAlone: 24.5, if no line of the outermost language names a language of the list.
func checkAlone(t *testing.T, langs []api.Lang, l []api.Layer, spans []api.Span) {
	t.Helper()
	lang, _ := called(langs, l[0].Lang)
	for _, d := range lang.Injects {
		if _, ok := called(langs, d.Lang); ok {
			return
		}
	}
	if len(l) != 1 || !slices.Equal(spans, paint.Spans(lang, l[0].Result.Nodes)) {
		t.Fatalf("24.5: %v: %v, %v", namesOf(langs), places(l), spans)
	}
}

func pick[T any](r *rand.Rand, l ...T) T { return l[r.Intn(len(l))] }

func loaded(t *testing.T, text string) api.Lang {
	t.Helper()
	l, fault := load.Load(text)
	if fault != (api.Fault{}) {
		t.Fatalf("%s is no language: %+v", text, fault)
	}
	return l
}

func allLoaded(t *testing.T, texts ...string) []api.Lang {
	t.Helper()
	var out []api.Lang
	for _, text := range texts {
		out = append(out, loaded(t, text))
	}
	return out
}

// enough: has each of these kinds come up often enough to tell something?
func enough(t *testing.T, least int, seen map[string]int, kinds ...string) {
	t.Helper()
	for _, k := range kinds {
		if seen[k] < least {
			t.Errorf("only %d of %q: %v", seen[k], k, seen)
		}
	}
}
