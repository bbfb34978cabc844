package grammar_test

import (
	"math"
	"math/rand"
	"strconv"
	"strings"
	"testing"

	"trellis/api"
	"trellis/defn"
	"trellis/grammar"
)

func build(t *testing.T, lines string) (api.Gram, []api.Rule) {
	t.Helper()
	d, _, _ := read(t, lines)
	g, l, f := grammar.Build(d)
	if f != (api.Flaw{}) {
		t.Fatalf("10.3: %q: %+v", lines, f)
	}
	return g, l
}

// prodsText: the productions from 1 on: a Sym's place, what it becomes.
func prodsText(g api.Gram) string {
	var out []string
	for _, p := range g.Prods[1:] {
		text := strconv.Itoa(p.Lhs) + ":"
		for _, r := range p.Rhs {
			text += " " + strconv.Itoa(r.Sym)
			if r.Field != "" {
				text += "." + r.Field
			}
			if r.As != "" {
				text += "@" + r.As
			}
		}
		out = append(out, text)
	}
	return strings.Join(out, "; ")
}

// 10.3: the example of the chapter, whole.
func TestBuildExample(t *testing.T) {
	g, l := build(t, `token a /a/; rule s = (a | "x")* f: t; rule t = a@b | ();`)
	d, _, _ := read(t, `token a /a/; rule s = a;`)
	want := api.Gram{
		Terms: []api.TermDef{{}, {Name: "x", Lit: true}, {Name: "a"}},
		Syms:  []api.Sym{{Name: "s", Kind: api.SymShown}, {Name: "t", Kind: api.SymShown}, {Kind: api.SymAux}, {Kind: api.SymAux}},
		Prods: []api.Prod{
			{Lhs: -1, Rhs: []api.Ref{{Sym: 3}}},
			{Lhs: 0, Rhs: []api.Ref{{Sym: 6}, {Sym: 4, Field: "f"}}},
			{Lhs: 1, Rhs: []api.Ref{{Sym: 2, As: "b"}}},
			{Lhs: 1},
			{Lhs: 2, Rhs: []api.Ref{{Sym: 2}}},
			{Lhs: 2, Rhs: []api.Ref{{Sym: 1}}},
			{Lhs: 3},
			{Lhs: 3, Rhs: []api.Ref{{Sym: 6}, {Sym: 5}}},
		},
	}
	rules := []api.Rule{
		{Term: 1, Pat: api.PatLit, Lit: "x", In: []int{-1}},
		{Term: 2, Pat: api.PatRegex, Re: d.Scans[0].Re, In: []int{-1}},
	}
	if !alike(g, want) || !alike(l, rules) {
		t.Errorf("10.3: %+v, %+v, want %+v, %+v", g, l, want, rules)
	}
}

// 10.3: the rows of all kinds of expressions.
func TestRows(t *testing.T) {
	for _, c := range []struct{ expr, own, aux string }{ // the tokens a 1, b 2, c 3; s 4, e 5, t 6; aux 7 ..
		{"a", "1: 1", ""},
		{"()", "1:", ""},
		{"() () a ()", "1: 1", ""},
		{"t b t a", "1: 6 2 6 1", ""},
		{"a (b c) a", "1: 1 2 3 1", ""},
		{"a | (b | c) | () | a", "1: 1; 1: 2; 1: 3; 1:; 1: 1", ""},
		{"a | ((b | c) a) | a", "1: 1; 1: 7 1; 1: 1", "; 3: 2; 3: 3"},
		{"a b | s c", "1: 1 2; 1: 4 3", ""},
		{"f: (a | b)", "1: 7.f", "; 3: 1; 3: 2"},
		{"f: (g: (a | h: b) c)", "1: 7.g 3.f", "; 3: 1; 3: 2.h"},
		{"f: (g: (h: a))", "1: 1.h", ""},
		{"f: (a g: (b h: c t) a)", "1: 1.f 2.g 3.h 6.g 1.f", ""},
		{"f: () a", "1: 1", ""},
		{"f: a @ x g: t @ y t @ z", "1: 1.f@x 6.g@y 6@z", ""},
		{"f: (a @ x b)", "1: 1.f@x 2.f", ""},
		{"a*", "1: 7", "; 3:; 3: 7 1"},
		{"a+", "1: 7", "; 3: 1; 3: 7 1"},
		{"a?", "1: 7", "; 3:; 3: 1"},
		{"(a f: b t @ x)* c", "1: 7 3", "; 3:; 3: 7 1 2.f 6@x"},
		{"(a f: b t @ x)+ c", "1: 7 3", "; 3: 1 2.f 6@x; 3: 7 1 2.f 6@x"},
		{"(a f: b t @ x)? c", "1: 7 3", "; 3:; 3: 1 2.f 6@x"},
		{"()+", "1: 7", "; 3:; 3: 7"},
		{"()*", "1: 7", "; 3:; 3: 7"},
		{"f: a*", "1: 7", "; 3:; 3: 7 1.f"},
		{"f: (a*)", "1: 7.f", "; 3:; 3: 7 1"},
		{"f: (g: a+ b?)", "1: 7.f 8.f", "; 3: 1.g; 3: 7 1.g; 4:; 4: 2"},
		{"a*+?", "1: 9", "; 3:; 3: 7 1; 4: 7; 4: 8 7; 5:; 5: 8"},
		{"(a | b)*", "1: 8", "; 3: 1; 3: 2; 4:; 4: 8 7"},
		{"(a | b c)+", "1: 8", "; 3: 1; 3: 2 3; 4: 7; 4: 8 7"},
		{"(a | (b | c) | a)?", "1: 8", "; 3: 1; 3: 2; 3: 3; 3: 1; 4:; 4: 7"},
		{"((a | b)? | c) a", "1: 9 1", "; 3: 1; 3: 2; 4:; 4: 7; 5: 8; 5: 3"},
		{"a? (b | c)", "1: 7 8", "; 3:; 3: 1; 4: 2; 4: 3"},
		{"(a | b) | c?", "1: 1; 1: 2; 1: 7", "; 3:; 3: 3"},
		{"a | f: (b | c)", "1: 1; 1: 7.f", "; 3: 2; 3: 3"},
	} {
		g, _ := build(t, "token a /a/; token b /b/; token c /c/; rule s = e t; rule e = "+c.expr+"; rule t = a b c;")
		if got, want := prodsText(g), "0: 5 6; "+c.own+"; 2: 1 2 3"+c.aux; got != want {
			t.Errorf("10.3: %s: %s, want %s", c.expr, got, want)
		}
		for i, x := range g.Syms {
			if want := i < 3; want != (x.Kind == api.SymShown) || want != (x.Name != "") || !want && x.Kind != api.SymAux {
				t.Errorf("10.3: %s: the symbol %d is %+v", c.expr, i, x)
			}
		}
		if !alike(g.Prods[0], api.Prod{Lhs: -1, Rhs: []api.Ref{{Sym: 4}}}) {
			t.Errorf("10.3: %s: production 0 is %+v", c.expr, g.Prods[0])
		}
	}
}

// 10.3: the order of tokens and symbols, and what is hidden.
func TestOrder(t *testing.T) {
	g, l := build(t, `skip / /; token c /c/; token a "x"; token c /d/; rule _s = "z" a* "y" @ n | t; token _ /b/; rule t = "y" ("x" | c) f: "z" _ u; rule u = _s+ | "_";`)
	terms := []api.TermDef{{}, {Name: "z", Lit: true}, {Name: "y", Lit: true}, {Name: "x", Lit: true}, {Name: "_", Lit: true}, {Name: "c"}, {Name: "a"}, {Name: "_"}}
	syms := []api.Sym{{Name: "_s", Kind: api.SymHidden}, {Name: "t", Kind: api.SymShown}, {Name: "u", Kind: api.SymShown}, {Kind: api.SymAux}, {Kind: api.SymAux}, {Kind: api.SymAux}}
	prods := "0: 1 11 2@n; 0: 9; 1: 2 12 1.f 7 10; 2: 13; 2: 4; 3:; 3: 11 6; 4: 3; 4: 5; 5: 8; 5: 13 8"
	if !alike(g.Terms, terms) || !alike(g.Syms, syms) || prodsText(g) != prods {
		t.Errorf("10.3: %+v, %+v, %s", g.Terms, g.Syms, prodsText(g))
	}
	for i, c := range []struct {
		term int
		pat  api.PatKind
		lit  string
	}{{1, api.PatLit, "z"}, {2, api.PatLit, "y"}, {3, api.PatLit, "x"}, {4, api.PatLit, "_"}, {-1, api.PatRegex, ""}, {5, api.PatRegex, ""}, {6, api.PatLit, "x"}, {5, api.PatRegex, ""}, {7, api.PatRegex, ""}} {
		if len(l) != 9 || l[i].Term != c.term || l[i].Pat != c.pat || l[i].Lit != c.lit || !alike(l[i].In, []int{-1}) {
			t.Errorf("10.3: the rule %d is %+v", i, l[i])
		}
	}
}

// 10.3: scanning rules with numbers for names.
func TestRules(t *testing.T) {
	_, l := build(t, `mode m; mode o open; flag g; mode p open; flag h; flag i;
		skip / /; skip / / in p, m, o; skip delim in o; token a empty in m; token b body;
		token c "x" when deeper, shallower, queued, unqueued, flag i, noflag g, flag h, ended, indented
			do measure, indent, dedent, drop, enqueue 65535, dequeue, enter p, enter o 0, enter m 7, leave, set h, set g, clear i;
		rule s = a b c "k";`)
	open := []int{-1, 1, 2}
	for i, in := range [][]int{open, open, {2, 0, 1}, {1}, {0}, open, open} {
		if len(l) != 7 || !alike(l[i].In, in) {
			t.Errorf("10.3: the rule %d stands in %v, want %v", i, l[i].In, in)
		}
	}
	for i, p := range []api.PatKind{api.PatLit, api.PatRegex, api.PatRegex, api.PatDelim, api.PatEmpty, api.PatBody, api.PatLit} {
		if l[i].Pat != p || (len(l[i].Re) > 0) != (p == api.PatRegex) {
			t.Errorf("10.3: the rule %d is %+v", i, l[i])
		}
	}
	tests := []api.Test{{Kind: 1}, {Kind: 2}, {Kind: 3}, {Kind: 4}, {Kind: 5, N: 2}, {Kind: 6}, {Kind: 5, N: 1}, {Kind: 7}, {Kind: 8}}
	acts := []api.Act{{Kind: 1}, {Kind: 2}, {Kind: 3}, {Kind: 4}, {Kind: 5, N: 65535}, {Kind: 6}, {Kind: 7, N: -1, M: 2}, {Kind: 7, M: 1}, {Kind: 7, N: 7}, {Kind: 8}, {Kind: 9, N: 1}, {Kind: 9}, {Kind: 10, N: 2}}
	for i, r := range l {
		if i < 6 && (len(r.Tests) > 0 || len(r.Acts) > 0) || i == 6 && (!alike(r.Tests, tests) || !alike(r.Acts, acts)) {
			t.Errorf("10.3: the rule %d asks %v, does %v", i, r.Tests, r.Acts)
		}
	}
}

// 10.2: every part, index and sub, of entries that are there and of such that are not.
func TestPlace(t *testing.T) {
	numbers := []int{math.MinInt, -2, -1, 0, 1, 2, 3, 4, 1 << 32, math.MaxInt}
	full := api.Spots{Modes: []int{1, 2}, Flags: []int{3}, Scans: []int{4, 5, 6}, Rules: []int{7, 8}, Paints: []int{9}, Folds: []int{10, 11}, Marks: []int{12}, Injects: []int{13}, Nodes: [][]int{{14, 15}, nil, {16, 17, 18}}}
	for _, sp := range []api.Spots{full, {}, {Rules: []int{1}}, {Nodes: [][]int{{}}}} {
		lists := map[api.Part][]int{1: sp.Modes, 2: sp.Flags, 3: sp.Scans, 4: sp.Rules, 5: sp.Paints, 6: sp.Folds, 7: sp.Marks, 8: sp.Injects}
		for part := api.Part(-1); part < 11; part++ {
			for _, index := range numbers {
				for _, sub := range numbers {
					want := 0
					for i, place := range lists[part] {
						if i == index && (part != api.PartRule || sub < 0) {
							want = place
						}
					}
					for i, l := range sp.Nodes {
						if part == api.PartRule && i == index && sub >= 0 && sub < len(l) {
							want = l[sub]
						}
					}
					f := api.Flaw{Code: api.ErrTwice, Part: part, Index: index, Sub: sub}
					if got := grammar.Place(sp, f); got != want {
						t.Errorf("10.2: Place(%+v, %+v) = %d, want %d", sp, f, got, want)
					}
				}
			}
		}
	}
}

// 10.2: the flaws of definitions that have been written stand at the lines and nodes that they are about.
func TestPlaceRandom(t *testing.T) {
	r := rand.New(rand.NewSource(102))
	seen := map[string]int{}
	for range 6000 {
		p := newPool(r, 3)
		text, code := defn.Print(p.spoilt(p.spoilt(p.sound(6))))
		if code != api.OK {
			continue
		}
		d, sp, _, _ := defn.Parse(text)
		f := grammar.Check(d)
		at := text[grammar.Place(sp, f):]
		line := map[api.Part]string{0: "language ", 1: "mode ", 2: "flag ", 4: "rule ", 5: "paint ", 6: "fold ", 7: "mark ", 8: "inject "}[f.Part]
		switch {
		case f.Part == api.PartScan:
			line = "token " + d.Scans[f.Index].Term
			if d.Scans[f.Index].Term == "" {
				line = "skip "
			}
		case f.Part == api.PartRule && f.Sub >= 0:
			line = d.Rules[f.Index].Expr[f.Sub].Text
			if f.Code == api.ErrLit {
				line = "\"" + line
			}
			seen["node"]++
		case f.Part == api.PartRule:
			line += d.Rules[f.Index].Name
			seen["rule"]++
		}
		if !strings.HasPrefix(at, line) {
			t.Fatalf("10.2: %+v of %s stands at %q", f, text, at)
		}
		seen[strconv.Itoa(int(f.Part))]++
	}
	enough(t, seen, 40, "node", "rule", "1", "2", "3", "5", "6", "7", "8")
}
