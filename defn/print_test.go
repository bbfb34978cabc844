package defn_test

import (
	"math"
	"math/rand"
	"slices"
	"strings"
	"testing"

	"trellis/api"
	"trellis/defn"
	"trellis/words"
)

// plainExprText: 9.3.
func plainExprText(t []api.GNode) (string, api.Errno) {
	if plainStart(t, len(t)-1) != 0 {
		return "", api.ErrShape
	}
	l := unflat(t, len(t)-1).words(never)
	if depth(l) > 32 {
		return "", api.ErrDeep
	}
	return words.Join(l), api.OK
}

// sameExpr: 9.3 of a list, P4 with it; and what is written is read as the same (9.5).
func sameExpr(t *testing.T, l []api.GNode) api.Errno {
	t.Helper()
	want, code := plainExprText(l)
	got, e := defn.Expr(l)
	if got != want || e != code {
		t.Fatalf("9.3: Expr(%+v) = %q, %d, want %q, %d", l, got, e, want, code)
	}
	if e == api.OK {
		back := parse("language l; rule s = " + got + ";")
		if !alike(back.defn.Rules, []api.RuleDef{{Name: "s", Expr: l}}) {
			t.Fatalf("9.5: %q, written for %+v, is read as %+v", got, l, back)
		}
	}
	return e
}

// 9.3: the chapter's examples, and every operand of every kind.
func TestExpr(t *testing.T) {
	for _, c := range [][2]string{
		{"a (b c) (d | e)*", "a ( b c ) ( d | e ) *"}, {"((a))", "a"}, {"(f: a)*", "f : a *"}, {"f: (a*)", "f : ( a * )"},
		{"(a|b)|c", "a | b | c"}, {"a|(b|c)", "a | ( b | c )"}, {"(a b)|c", "a b | c"}, {"a|(b c)", "a | b c"}, {"(a*)|(f:b)", "a * | f : b"},
		{"(a b) c", "a b c"}, {"(a|b) c", "( a | b ) c"}, {"a (b|c)", "a ( b | c )"}, {"(a*) (f:b)", "a * f : b"}, {"(f:a) b*", "f : a b *"},
		{"(a|b)+", "( a | b ) +"}, {"(a b)?", "( a b ) ?"}, {"(a*)+", "a * +"}, {"(f:a)?", "f : a ?"}, {"()*", "( ) *"}, {"a@b*", "a @ b *"},
		{"f:(a|b)", "f : ( a | b )"}, {"f:(a b)", "f : ( a b )"}, {"f:(a+)", "f : ( a + )"}, {"f:(a?)", "f : ( a ? )"}, {"f:(g:a)", "f : ( g : a )"}, {"f:(a@b)", "f : a @ b"}, {"f:()", "f : ( )"}, {`f:"x"`, `f : "x"`},
		{`"\n\x00"`, `"\n\x00"`}, {"(((())))", "( )"}, {"in when do", "in when do"},
	} {
		got := parse("language l; rule s = " + c[0] + ";")
		if text, e := defn.Expr(got.defn.Rules[0].Expr); text != c[1] || e != api.OK {
			t.Errorf("9.3: Expr of %q read = %q, %d, want %q", c[0], text, e, c[1])
		}
	}
}

// exprsOf: all trees of n nodes, of few leaves.
func exprsOf(n int, known map[int][]*expr) []*expr {
	if out, ok := known[n]; ok {
		return out
	}
	var out []*expr
	if n == 1 {
		out = []*expr{{op: api.GName, text: "a"}, {op: api.GLit, text: "("}, {op: api.GEmpty}}
	} else {
		for _, e := range exprsOf(n-1, known) {
			for _, op := range []api.GOp{api.GStar, api.GPlus, api.GOpt} {
				out = append(out, &expr{op: op, kids: []*expr{e}})
			}
			out = append(out, &expr{op: api.GField, text: "f", kids: []*expr{e}})
			if e.op == api.GName || e.op == api.GLit {
				out = append(out, &expr{op: api.GAs, text: "n", kids: []*expr{e}})
			}
		}
		for left := 1; left < n-1; left++ {
			for _, a := range exprsOf(left, known) {
				for _, b := range exprsOf(n-1-left, known) {
					out = append(out, &expr{op: api.GSeq, kids: []*expr{a, b}}, &expr{op: api.GAlt, kids: []*expr{a, b}})
				}
			}
		}
	}
	known[n] = out
	return out
}

// 9.3, 9.5: all small trees.
func TestExprAllSmall(t *testing.T) {
	known := map[int][]*expr{}
	for n := 1; n <= 5; n++ {
		for _, e := range exprsOf(n, known) {
			if sameExpr(t, nodesOf(e)) != api.OK {
				t.Fatalf("9.3: Expr(%+v) is refused", nodesOf(e))
			}
		}
	}
}

// spoiltNodes: a list with something changed in one place.
func spoiltNodes(r *rand.Rand, l []api.GNode) []api.GNode {
	out := slices.Clone(l)
	i := r.Intn(len(out))
	n := &out[i]
	odd := pick(r, -1, 0, i-1, i-2, i, i+1, len(l), -2, math.MaxInt, math.MinInt)
	switch r.Intn(6) {
	case 0:
		n.Op = api.GOp(pick(r, r.Intn(12), -1, math.MaxInt, math.MinInt))
	case 1:
		n.Text = pick(r, "", "a", "1", "a b", strings.Repeat("n", 25), "é")
	case 2:
		n.A = odd
	case 3:
		n.B = odd
	case 4:
		return slices.Delete(out, i, i+1)
	case 5:
		return slices.Insert(out, i, node(api.GName, "a", -1, -1))
	}
	return out
}

// 9.3: random trees, and lists that are near one.
func TestExprRandom(t *testing.T) {
	r := rand.New(rand.NewSource(93))
	seen := map[string]int{}
	for range 15000 {
		l := nodesOf(randomExpr(r, 1+r.Intn(20)))
		sameExpr(t, l)
		for range 1 + r.Intn(2) {
			if len(l) > 0 {
				l = spoiltNodes(r, l)
			}
		}
		seen[map[api.Errno]string{api.OK: "tree", api.ErrShape: "none"}[sameExpr(t, l)]]++
	}
	enough(t, seen, 500, "tree", "none")
}

// 9.3: all lists of one and of two nodes whose numbers are near.
func TestExprAllLists(t *testing.T) {
	var nodes []api.GNode
	for op := api.GOp(-1); op <= 11; op++ {
		for _, text := range []string{"", "a", "9"} {
			for a := -2; a <= 2; a++ {
				for b := -2; b <= 2; b++ {
					nodes = append(nodes, node(op, text, a, b))
				}
			}
		}
	}
	sameExpr(t, nil)
	sameExpr(t, []api.GNode{})
	trees := 0
	for _, a := range nodes {
		sameExpr(t, []api.GNode{a})
		for _, b := range nodes {
			if code := sameShape(t, []api.GNode{a, b}); code == api.OK {
				trees++
			}
		}
	}
	if trees != 24 { // star, plus, opt, a field of a name, of three literals and of nothing; as of the first four
		t.Errorf("9.3: %d trees of two nodes", trees)
	}
}

// sameShape: whether a list is a tree, told by Expr and by Shaped.
func sameShape(t *testing.T, l []api.GNode) api.Errno {
	t.Helper()
	_, e := defn.Expr(l)
	is := plainStart(l, len(l)-1) == 0
	if (e == api.OK) != is || defn.Shaped(api.Defn{Name: "l", Rules: []api.RuleDef{{Name: "s", Expr: l}}}) != is {
		t.Fatalf("9.3: Expr(%+v) = %d, a tree: %v", l, e, is)
	}
	return e
}

// nested: a tree in whose text n brackets are open, around what stands in it.
func nested(l []api.GNode, n int) []api.GNode {
	for range n {
		l = append(l, node(api.GStar, "", len(l)-1, -1))
		l = append(l, node(api.GField, "f", len(l)-1, -1))
	}
	return l
}

// 9.3: MaxNest brackets may be open in the text, one more may not.
func TestExprDeep(t *testing.T) {
	a, empty := []api.GNode{node(api.GName, "a", -1, -1)}, []api.GNode{node(api.GEmpty, "", -1, -1)}
	side := append(nested(a, 32), nested([]api.GNode{node(api.GLit, "(", -1, -1)}, 1)...)
	side[66].A, side[67].A = 65, 66
	side = append(side, node(api.GSeq, "", 64, 67))
	for i, c := range []struct {
		l    []api.GNode
		code api.Errno
	}{
		{nested(a, 32), api.OK}, {nested(a, 33), api.ErrDeep}, {nested(empty, 31), api.OK}, {nested(empty, 32), api.ErrDeep}, {nested(a, 500), api.ErrDeep}, {side, api.OK},
		{append(nested(a, 33), node(api.GName, "", -1, -1)), api.ErrShape}, {append(nested(a, 33), node(api.GName, "b", -1, -1)), api.ErrShape},
	} {
		if got := sameExpr(t, c.l); got != c.code {
			t.Errorf("9.3: the tree %d: %d, want %d", i, got, c.code)
		}
		d := api.Defn{Name: "l", Rules: []api.RuleDef{{Name: "r", Expr: a}, {Name: "s", Expr: c.l}}}
		if _, e := defn.Print(d); e != c.code || defn.Shaped(d) != (c.code != api.ErrShape) {
			t.Errorf("9.4: a rule with the tree %d: %d, want %d", i, e, c.code)
		}
	}
}

// 9.3, P1: an expression's text may be longer than a definition, and its tree as deep as it likes, if brackets are not.
func TestExprLong(t *testing.T) {
	const n = 1 << 16
	stars, rows, right := []api.GNode{node(api.GName, "a", -1, -1)}, []api.GNode{node(api.GName, "a", -1, -1)}, []api.GNode{}
	for range n {
		stars = append(stars, node(api.GStar, "", len(stars)-1, -1))
		rows = append(rows, node(api.GLit, "x", -1, -1), node(api.GAlt, "", len(rows)-1, len(rows)))
		right = append(right, node(api.GName, "b", -1, -1))
	}
	for i := n - 2; i >= 0; i-- {
		right = append(right, node(api.GSeq, "", i, len(right)-1))
	}
	if text, e := defn.Expr(stars); text != "a"+strings.Repeat(" *", n) || e != api.OK {
		t.Errorf("9.3: many stars: %d bytes, %d", len(text), e)
	}
	if text, e := defn.Expr(rows); text != "a"+strings.Repeat(" | \"x\"", n) || e != api.OK {
		t.Errorf("9.3: many alternatives: %d bytes, %d", len(text), e)
	}
	if text, e := defn.Expr(right); text != "" || e != api.ErrDeep {
		t.Errorf("9.3: rows to the right: %d bytes, %d", len(text), e)
	}
}

// samePrint: 9.4 and 9.2 of a definition, P4 with them.
func samePrint(t *testing.T, d api.Defn) (string, api.Errno) {
	t.Helper()
	want, code := plainPrint(d)
	got, e := defn.Print(d)
	if got != want || e != code {
		t.Fatalf("9.4: Print(%+v) = %q, %d, want %q, %d", d, got, e, want, code)
	}
	if shaped := defn.Shaped(d); shaped != plainShaped(d) || shaped == (e == api.ErrShape) {
		t.Fatalf("9.2: Shaped(%+v) = %v, and Print answers %d", d, shaped, e)
	}
	return got, e
}

// 9.4: a line of each kind.
func TestPrint(t *testing.T) {
	for _, c := range [][2]string{
		{"language l;", ""},
		{"inject A l;mark s f;fold s;paint \"=\" \"\";paint \"A\" \"k\";rule s=((A)|B)*s;token B body;token C delim;skip empty;flag f;mode n;mode m open;",
			"mode n ;\nmode m open ;\nflag f ;\ntoken B body ;\ntoken C delim ;\nskip empty ;\nrule s = ( A | B ) * s ;\npaint \"=\" \"\" ;\npaint A \"k\" ;\nfold s ;\nmark s f ;\ninject A l ;\n"},
		{"skip /[ \\t]+/ in m,n;token A \"a\\x22\" when flag f,ended do set f,enter m 007,enter n,enter n 0,enqueue 0;", "skip /[\\t ]+/ in m , n ;\ntoken A \"a\\\"\" when flag f , ended do set f , enter m 7 , enter n , enter n 0 , enqueue 0 ;\n"},
		{"skip /\\x2f|(a)/ when deeper,shallower,queued,unqueued,noflag f,indented do measure,indent,dedent,drop,dequeue,leave,clear f;", "skip /\\/|a/ when deeper , shallower , queued , unqueued , noflag f , indented do measure , indent , dedent , drop , dequeue , leave , clear f ;\n"},
		{"paint \"a b\" \"\\xff\";paint \"\" \"x\";paint \"9\" \"9\";paint \"_\" \"_\";paint \"" + strings.Repeat("n", 25) + "\" \"\";", "paint \"a b\" \"\\xff\" ;\npaint \"\" \"x\" ;\npaint \"9\" \"9\" ;\npaint _ \"_\" ;\npaint \"" + strings.Repeat("n", 25) + "\" \"\" ;\n"},
	} {
		d := parse(strings.Replace("language l;"+c[0], "language l;language", "language", 1)).defn
		if got, e := samePrint(t, d); got != "language l ;\n"+c[1] || e != api.OK {
			t.Errorf("9.4: Print of %q read = %q, %d, want %q", c[0], got, e, c[1])
		}
	}
}

// 9.4: a text of MaxDefn bytes is written, a longer one is not; what is not well shaped or too deep is told first.
func TestPrintLong(t *testing.T) {
	long := func(n int) api.Defn {
		return api.Defn{Name: "l", Paints: []api.PaintDef{{Name: "A", Class: strings.Repeat("x", n-len("language l ;\npaint A \"\" ;\n"))}}}
	}
	for _, c := range []struct {
		n    int
		code api.Errno
	}{{api.MaxDefn - 1, api.OK}, {api.MaxDefn, api.OK}, {api.MaxDefn + 1, api.ErrLong}, {api.MaxDefn + 2, api.ErrLong}, {api.MaxDefn * 40, api.ErrLong}} {
		if text, e := samePrint(t, long(c.n)); e != c.code || e == api.OK && len(text) != c.n {
			t.Errorf("9.4: a text of %d bytes: %d bytes, %d", c.n, len(text), e)
		}
	}
	full := long(api.MaxDefn)
	full.Folds = []string{"a"}
	if _, e := samePrint(t, full); e != api.ErrLong {
		t.Errorf("9.4: a line behind MaxDefn bytes: %d", e)
	}
	deep := long(api.MaxDefn * 2)
	deep.Rules = []api.RuleDef{{Name: "s", Expr: nested([]api.GNode{node(api.GName, "a", -1, -1)}, 33)}}
	deep.Flags = slices.Repeat([]string{"f"}, 9999)
	if _, e := samePrint(t, deep); e != api.ErrDeep {
		t.Errorf("9.4: too deep and too long: %d", e)
	}
	deep.Injects = []api.InjectDef{{Name: "A"}}
	if _, e := samePrint(t, deep); e != api.ErrShape {
		t.Errorf("9.4: too deep, too long and not well shaped: %d", e)
	}
	for _, n := range []int{200, 2000, 200000} {
		d := api.Defn{Name: "l", Folds: slices.Repeat([]string{"abc"}, n)}
		if text, e := defn.Print(d); (e == api.ErrLong) != (n > 200) || e == api.OK && len(text) != 13+11*n {
			t.Errorf("9.4: %d lines: %d bytes, %d", n, len(text), e)
		}
	}
}

// 9.2: each thing that a definition must have, and must not have.
func TestShaped(t *testing.T) {
	type scan = api.ScanDef
	re := []api.ReNode{{Op: api.ReEmpty, A: -1, B: -1}}
	most, more := strings.Repeat("n", 24), strings.Repeat("n", 25)
	test := func(k api.TestKind, s string) scan {
		return scan{Pat: 3, Tests: []api.TestDef{{Kind: 1}, {Kind: k, Name: s}}}
	}
	act := func(k api.ActKind, s string, n int) scan {
		return scan{Pat: 3, Acts: []api.ActDef{{Kind: 1}, {Kind: k, Name: s, N: n}}}
	}
	for _, c := range []struct {
		s  scan
		ok bool
	}{
		{scan{Pat: 3}, true}, {scan{Pat: 4}, true}, {scan{Pat: 5}, true}, {scan{Pat: 2}, true}, {scan{Pat: 2, Lit: "\x00"}, true}, {scan{Pat: 1, Re: re}, true}, {scan{Pat: 3, Re: []api.ReNode{}}, true},
		{scan{}, false}, {scan{Pat: 6}, false}, {scan{Pat: -1}, false}, {scan{Pat: math.MaxInt}, false}, {scan{Pat: 1}, false}, {scan{Pat: 1, Re: re, Lit: "x"}, false}, {scan{Pat: 1, Re: append(re, re...)}, false}, {scan{Pat: 2, Re: re}, false}, {scan{Pat: 3, Re: re}, false}, {scan{Pat: 4, Re: re}, false}, {scan{Pat: 5, Re: re}, false}, {scan{Pat: 3, Lit: "x"}, false}, {scan{Pat: 4, Lit: "x"}, false}, {scan{Pat: 5, Lit: "x"}, false},
		{scan{Pat: 3, Term: "A"}, true}, {scan{Pat: 3, Term: most}, true}, {scan{Pat: 3, Term: more}, false}, {scan{Pat: 3, Term: "9"}, false}, {scan{Pat: 3, Term: " "}, false}, {scan{Pat: 3, Term: "\""}, false},
		{scan{Pat: 3, In: []string{"a", "in"}}, true}, {scan{Pat: 3, In: []string{"a", ""}}, false}, {scan{Pat: 3, In: []string{"a-", "b"}}, false},
		{test(1, ""), true}, {test(2, ""), true}, {test(3, ""), true}, {test(4, ""), true}, {test(5, "f"), true}, {test(6, "f"), true}, {test(7, ""), true}, {test(8, ""), true}, {test(0, ""), false}, {test(9, ""), false}, {test(math.MinInt, ""), false}, {test(1, "f"), false}, {test(4, "f"), false}, {test(5, ""), false}, {test(6, ""), false}, {test(5, "1"), false}, {test(7, "f"), false}, {test(8, "f"), false}, {test(9, "f"), false},
		{act(1, "", 0), true}, {act(4, "", 0), true}, {act(5, "", 0), true}, {act(5, "", 65535), true}, {act(6, "", 0), true}, {act(7, "m", -1), true}, {act(7, "m", 0), true}, {act(7, "m", 65535), true}, {act(8, "", 0), true}, {act(9, "f", 0), true}, {act(10, "f", 0), true},
		{act(0, "", 0), false}, {act(11, "", 0), false}, {act(11, "f", 0), false}, {act(math.MaxInt, "", 0), false}, {act(1, "", 1), false}, {act(1, "", -1), false}, {act(1, "f", 0), false}, {act(5, "", -1), false}, {act(5, "", 65536), false}, {act(5, "f", 0), false}, {act(6, "", 1), false}, {act(7, "", 0), false}, {act(7, "m", -2), false}, {act(7, "m", 65536), false}, {act(7, "m", math.MinInt), false}, {act(7, "m", math.MaxInt), false}, {act(8, "m", 0), false}, {act(8, "", -1), false}, {act(9, "", 0), false}, {act(9, "f", 1), false}, {act(10, "f", -1), false}, {act(10, "", 0), false},
	} {
		d := api.Defn{Name: "l", Scans: []api.ScanDef{{Pat: 3}, c.s}}
		if samePrint(t, d); defn.Shaped(d) != c.ok {
			t.Errorf("9.2: Shaped of a definition with %+v = %v", c.s, !c.ok)
		}
	}
	for i, d := range []api.Defn{
		{}, {Name: "1"}, {Name: more}, {Name: "a\n"}, {Name: "é"}, {Name: "l", Modes: []api.ModeDef{{Name: "a"}, {}}}, {Name: "l", Modes: []api.ModeDef{{Open: true}}}, {Name: "l", Flags: []string{"a", ""}}, {Name: "l", Flags: []string{more}}, {Name: "l", Folds: []string{"a", "1"}}, {Name: "l", Marks: []api.MarkDef{{Name: "a"}}}, {Name: "l", Marks: []api.MarkDef{{Field: "a"}}}, {Name: "l", Injects: []api.InjectDef{{Name: "a"}}}, {Name: "l", Injects: []api.InjectDef{{Lang: "a"}}}, {Name: "l", Rules: []api.RuleDef{{Name: "s"}}}, {Name: "l", Rules: []api.RuleDef{{Expr: []api.GNode{node(api.GName, "a", -1, -1)}}}},
	} {
		if _, e := samePrint(t, d); e != api.ErrShape {
			t.Errorf("9.2: the definition %d is taken", i)
		}
	}
	if d := (api.Defn{Name: most, Paints: []api.PaintDef{{}, {Name: "\x00\xff", Class: "\n"}}}); !defn.Shaped(d) {
		t.Errorf("9.2: Shaped(%+v) = false", d)
	}
}

// spoiltDefn: a definition with something changed in one place; its lists are new where they are.
func spoiltDefn(r *rand.Rand, d api.Defn) api.Defn {
	odd := pick(r, "", "1", "a b", strings.Repeat("n", 25), "a", "é", "-", "/")
	number := pick(r, -2, -1, 0, 1, 5, 65535, 65536, math.MaxInt, math.MinInt)
	switch r.Intn(9) {
	case 0:
		d.Name = odd
	case 1:
		d.Modes = append(slices.Clone(d.Modes), api.ModeDef{Name: odd})
	case 2:
		d.Flags = append([]string{odd}, d.Flags...)
	case 3:
		d.Folds = append([]string{odd}, d.Folds...)
	case 4:
		d.Marks = append(slices.Clone(d.Marks), api.MarkDef{Name: pick(r, odd, "a"), Field: pick(r, odd, "a")})
	case 5:
		d.Injects = append(slices.Clone(d.Injects), api.InjectDef{Name: pick(r, odd, "a"), Lang: pick(r, odd, "a")})
	case 6:
		d.Rules = append(slices.Clone(d.Rules), api.RuleDef{Name: pick(r, odd, "a"), Expr: spoiltNodes(r, nodesOf(randomExpr(r, 4)))})
	default:
		s := randomScan(r)
		switch r.Intn(6) {
		case 0:
			s.Pat = api.PatKind(pick(r, number, 1+r.Intn(5)))
		case 1:
			s.Lit, s.Term = pick(r, odd, s.Lit), pick(r, odd, s.Term)
		case 2:
			s.In = append(s.In, odd)
		case 3:
			s.Tests = append(s.Tests, api.TestDef{Kind: api.TestKind(pick(r, number, r.Intn(10))), Name: pick(r, "", odd)})
		default:
			s.Acts = append(s.Acts, api.ActDef{Kind: api.ActKind(pick(r, number, r.Intn(12))), Name: pick(r, "", odd), N: pick(r, 0, number)})
		}
		d.Scans = append(slices.Clone(d.Scans), s)
	}
	return d
}

// 9.2, 9.4: random definitions, and what is near one.
func TestPrintRandom(t *testing.T) {
	r := rand.New(rand.NewSource(94))
	seen := map[string]int{}
	for range 8000 {
		d := randomDefn(r, 3)
		samePrint(t, d)
		_, e := samePrint(t, spoiltDefn(r, d))
		seen[map[api.Errno]string{api.OK: "fine", api.ErrShape: "not well shaped"}[e]]++
	}
	enough(t, seen, 1000, "fine", "not well shaped")
}
