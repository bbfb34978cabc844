package tree_test

import (
	"math/rand"
	"slices"
	"strconv"
	"strings"
	"testing"

	"trellis/api"
	"trellis/defn"
	"trellis/load"
	"trellis/tree"
)

// Nodes made as a parser makes them.

// stack: symbols one behind the other, the nodes of each, and where each of them ends; ends has one more: where the first one begins.
type stack struct {
	lang  api.Lang
	syms  []int
	nodes [][]api.Node
	ends  []int
}

func (s *stack) push(sym int, l []api.Node, end int) {
	s.syms, s.nodes, s.ends = append(s.syms, sym), append(s.nodes, l), append(s.ends, end)
}

func (s *stack) shift(term, leaf, from, to int) {
	s.push(term, tree.Token(s.lang, term, leaf, from, to), to)
}

func (s *stack) reduce(prod int) {
	p := s.lang.Gram.Prods[prod]
	n := len(s.syms) - len(p.Rhs)
	l := tree.Reduce(s.lang, prod, s.nodes[n:], s.ends[n:])
	end := s.ends[len(s.syms)]
	s.syms, s.nodes, s.ends = s.syms[:n], s.nodes[:n], s.ends[:n+1]
	s.push(len(s.lang.Gram.Terms)+p.Lhs, l, end)
}

// shown: what is shown of all symbols, each by itself.
func (s *stack) shown() []api.Node {
	var out []api.Node
	for i, l := range s.nodes {
		out = append(out, tree.Show(s.lang, s.syms[i], l)...)
	}
	return out
}

// checkPlaces: 15.10, and what 15.11 says of a byte.
func checkPlaces(t *testing.T, l []api.Node, end int) {
	t.Helper()
	roots, ok := bushes(l)
	if !ok {
		t.Fatalf("15.9: %+v is no forest", l)
	}
	beside := func(l []bush) {
		for i := range l {
			if l[i].node.From > l[i].node.To || i > 0 && l[i-1].node.To > l[i].node.From {
				t.Fatalf("15.10: %+v stands behind %+v", l[i].node, l[max(i-1, 0)].node)
			}
		}
	}
	beside(roots)
	each(roots, nil, func(b, in *bush) {
		beside(b.kids)
		if n := len(b.kids); n > 0 && (b.node.From != b.kids[0].node.From || b.node.To != b.kids[n-1].node.To) {
			t.Fatalf("15.10: %+v has the children %+v", b.node, b.kids)
		}
		if in != nil && (b.node.From < in.node.From || b.node.To > in.node.To) {
			t.Fatalf("15.10: %+v is a child of %+v", b.node, in.node)
		}
	})
	for at := -1; at <= end; at++ {
		var want []int
		for i, n := range l {
			if n.From <= at && at < n.To {
				want = append(want, i)
			}
		}
		if p := tree.Path(l, at); !slices.Equal(p, want) {
			t.Fatalf("15.11: %+v: at %d: %v, want %v", l, at, p, want)
		}
	}
}

// 15.10: tokens as they come, and productions of whatever stands last.
func TestAnyProductions(t *testing.T) {
	r := rand.New(rand.NewSource(7))
	seen := map[string]int{}
	for range 3000 {
		s := stack{ends: []int{0}}
		g := &s.lang.Gram
		g.Terms = []api.TermDef{{}, {Name: "a"}, {Name: "_b"}, {Name: "c", Lit: true}}
		g.Syms = []api.Sym{{Name: "s", Kind: api.SymShown}, {Name: "t", Kind: api.SymShown}, {Name: "_h", Kind: api.SymHidden}, {Kind: api.SymAux}}
		for leaf := range 1 + r.Intn(10) {
			from := s.ends[len(s.syms)] + r.Intn(3)
			s.shift(1+r.Intn(3), leaf, from, from+r.Intn(4))
			for r.Intn(3) > 0 {
				p := api.Prod{Lhs: r.Intn(len(g.Syms))}
				for _, sym := range s.syms[len(s.syms)-r.Intn(min(len(s.syms), 4)+1):] {
					p.Rhs = append(p.Rhs, api.Ref{Sym: sym, Field: pick(r, "", "f", "g"), As: pick(r, "", "", "n")})
				}
				g.Prods = append(g.Prods, p)
				s.reduce(len(g.Prods) - 1)
				seen[strconv.Itoa(len(p.Rhs))]++
			}
		}
		checkPlaces(t, s.shown(), s.ends[len(s.syms)])
		for _, l := range s.nodes {
			checkPlaces(t, l, s.ends[len(s.syms)])
		}
	}
	enough(t, 500, seen, "0", "1", "2", "3", "4")
}

// run: a stack that is moved by a language's table.
type run struct {
	stack
	states []int
}

func newRun(l api.Lang) *run { return &run{stack{lang: l, ends: []int{0}}, []int{0}} }

// take: whether the token is taken, or, the end, all is accepted.
func (x *run) take(term, leaf, from, to int) bool {
	for {
		a := x.lang.Table.Actions[x.states[len(x.states)-1]][term]
		switch a.Kind {
		case api.ActionReduce:
			p := x.lang.Gram.Prods[a.N]
			x.reduce(a.N)
			x.states = x.states[:len(x.states)-len(p.Rhs)]
			x.states = append(x.states, x.lang.Table.Gotos[x.states[len(x.states)-1]][p.Lhs])
		case api.ActionShift:
			x.shift(term, leaf, from, to)
			x.states = append(x.states, a.N)
			return true
		default:
			return a.Kind == api.ActionAccept
		}
	}
}

// token: one of a sentence.
type token struct{ term, from, to int }

// speaker makes sentences out of a definition's rules, and tells what is shown of them by DOC.md's words ('Trees'). It knows nothing of productions.
type speaker struct {
	*rand.Rand
	rules  map[string][]api.GNode
	names  map[string]int // tokens' numbers
	lits   map[string]int
	low    map[string]int // by rule how deep it is at least
	tokens []token
	end    int // of the last token
}

func newSpeaker(r *rand.Rand, d api.Defn, g api.Gram) *speaker {
	s := &speaker{Rand: r, rules: map[string][]api.GNode{}, names: map[string]int{}, lits: map[string]int{}, low: map[string]int{}}
	for n, t := range g.Terms[1:] {
		if t.Lit {
			s.lits[t.Name] = n + 1
		} else {
			s.names[t.Name] = n + 1
		}
	}
	for _, x := range d.Rules {
		s.rules[x.Name], s.low[x.Name] = x.Expr, 1000
	}
	for range d.Rules {
		for name, e := range s.rules {
			s.low[name] = 1 + s.least(e, len(e)-1)
		}
	}
	return s
}

// least: how deep a node of an expression is at least.
func (s *speaker) least(e []api.GNode, at int) int {
	switch n := e[at]; n.Op {
	case api.GName:
		return s.low[n.Text]
	case api.GSeq:
		return max(s.least(e, n.A), s.least(e, n.B))
	case api.GAlt:
		return min(s.least(e, n.A), s.least(e, n.B))
	case api.GPlus, api.GField, api.GAs:
		return s.least(e, n.A)
	}
	return 0
}

func isHiddenName(s string) bool { return strings.HasPrefix(s, "_") }

// token: a token comes; its node, hidden or not.
func (s *speaker) token(name string, lit bool) []bush {
	term := s.names[name]
	if lit {
		term = s.lits[name]
	}
	from := s.end + s.Intn(3)
	s.end = from + s.Intn(4)
	s.tokens = append(s.tokens, token{term, from, s.end})
	return []bush{{node: api.Node{Name: name, Named: !lit, From: from, To: s.end, Leaf: len(s.tokens) - 1}}}
}

// rule: what stands below a rule's node, or in its place if it is hidden.
func (s *speaker) rule(name string, deep int) []bush {
	e := s.rules[name]
	return s.show(e, len(e)-1, deep-1)
}

// named: what is shown of a name or a literal, called as, if that is a name.
func (s *speaker) named(n api.GNode, as string, deep int) []bush {
	_, isRule := s.rules[n.Text]
	switch hidden := isHiddenName(n.Text); {
	case n.Op == api.GLit || !isRule:
		l := s.token(n.Text, n.Op == api.GLit)
		if as == "" && hidden && n.Op == api.GName {
			return nil
		}
		return renamed(l, as)
	case hidden && as == "":
		return s.rule(n.Text, deep)
	case as == "":
		as = n.Text
	}
	l := s.rule(n.Text, deep)
	return under(as, l, s.end)
}

// show: a row of tokens comes that the node means; what is shown of it.
func (s *speaker) show(e []api.GNode, at, deep int) []bush {
	free := deep > 0 && len(s.tokens) < 60
	switch n := e[at]; n.Op {
	case api.GName, api.GLit:
		return s.named(n, "", deep)
	case api.GAs:
		return s.named(e[n.A], n.Text, deep)
	case api.GField:
		return fielded(s.show(e, n.A, deep), n.Text)
	case api.GSeq:
		l := s.show(e, n.A, deep)
		return append(l, s.show(e, n.B, deep)...)
	case api.GAlt:
		if free && s.Intn(2) == 0 || !free && s.least(e, n.A) <= s.least(e, n.B) {
			return s.show(e, n.A, deep)
		}
		return s.show(e, n.B, deep)
	case api.GStar, api.GPlus, api.GOpt:
		most := map[api.GOp]int{api.GStar: 3, api.GPlus: 3, api.GOpt: 1}[n.Op]
		times := s.Intn(most + 1)
		if !free {
			times = 0
		}
		if n.Op == api.GPlus {
			times = max(times, 1)
		}
		var l []bush
		for range times {
			l = append(l, s.show(e, n.A, deep)...)
		}
		return l
	}
	return nil
}

// checkSentence: a sentence is taken, and what is made of it is what is shown of it; also on the way nodes stand as they should.
func checkSentence(t *testing.T, text string, r *rand.Rand, d api.Defn, l api.Lang, seen map[string]int) {
	t.Helper()
	s := newSpeaker(r, d, l.Gram)
	first := api.GNode{Op: api.GName, Text: d.Rules[0].Name}
	want := listed(s.named(first, "", r.Intn(8)))
	x := newRun(l)
	for i, k := range s.tokens {
		if !x.take(k.term, i, k.from, k.to) {
			t.Fatalf("%s: %v is no sentence", text, s.tokens)
		}
		checkPlaces(t, x.shown(), s.end)
	}
	if !x.take(0, -1, 0, 0) || len(x.nodes) != 1 {
		t.Fatalf("%s: %v is no sentence", text, s.tokens)
	}
	got := x.nodes[0]
	if !slices.Equal(got, want) {
		t.Fatalf("15.3: %s: %v: %s %+v, want %s %+v", text, s.tokens, tree.Text(got), got, tree.Text(want), want)
	}
	if all := tree.Reduce(l, 0, x.nodes, x.ends); !slices.Equal(all, got) {
		t.Fatalf("15.3: %s: production 0 shows %+v, want %+v", text, all, got)
	}
	checkPlaces(t, got, s.end)
	checkList(t, got)
	switch {
	case len(s.tokens) == 0:
		seen["without a token"]++
	case len(got) > 8:
		seen["great"]++
	}
	for _, n := range got {
		if n.Leaf < 0 && n.Kids == 0 {
			seen["nodes without a child"]++
		}
		if n.Field != "" {
			seen["fields"]++
		}
	}
}

// What definitions say of their trees; with all that they can say.
func TestTrees(t *testing.T) {
	const a, b = "language l; token a /a/; ", "token _b /b/; "
	r := rand.New(rand.NewSource(8))
	seen := map[string]int{}
	for _, text := range []string{
		a + `rule s = t ("+" t)*; rule t = a | "(" s ")";`,
		a + b + `rule stmt = target: a "=" _value @ Val _b; rule _value = a?;`,
		a + b + `rule _s = f: (a | _t)* "." g: _t@n; rule _t = "x" _b | h: "y" u; rule u = ();`,
		a + b + `rule s = f: (a g: _b@n ("," a@m)*)+; `,
		a + b + `rule s = e@x e@y "." f: e e; rule e = a | _b "(" _n@z ")" ; rule _n = ();`,
		a + b + `rule s = _h@w; rule _h = f: (_h@v "+" a) | _b;`,
		a + b + `rule s = f: (g: (h: a "x")? _b)*; `,
		`language l; token _o /b/; rule s = ("a" _p@q "b")* e; rule _p = _o*; rule e = () | "e" e;`,
		a + b + `rule _s = "if" _c@test s2: _s "end" | a; rule _c = a "<" a | _b;`,
		a + b + `rule s = "a"@lit _b@hid a@tok e@rul _h@wrap; rule e = "e"; rule _h = "h" "h";`,
	} {
		d, _, _, _ := defn.Parse(text)
		l, fault := load.Load(text)
		if fault.Code != api.OK {
			t.Fatalf("%s: %+v", text, fault)
		}
		for range 200 {
			checkSentence(t, text, r, d, l, seen)
		}
	}
	enough(t, 100, seen, "great", "nodes without a child", "fields", "without a token")
}

// anyExpr: an expression with n operators.
func anyExpr(r *rand.Rand, names []string, n int) string {
	if n == 0 {
		return pick(r, names...) + pick(r, "", "", "@n", "@_m")
	}
	left := r.Intn(n)
	switch r.Intn(8) {
	case 0, 1, 2:
		return anyExpr(r, names, left) + " " + anyExpr(r, names, n-1-left)
	case 3:
		return "(" + anyExpr(r, names, left) + " | " + anyExpr(r, names, n-1-left) + ")"
	case 4, 5:
		return pick(r, "f", "g") + ": (" + anyExpr(r, names, n-1) + ")"
	}
	return "(" + anyExpr(r, names, n-1) + ")" + pick(r, "*", "+", "?")
}

// Definitions as they come, if they are those of languages.
func TestAnyTrees(t *testing.T) {
	r := rand.New(rand.NewSource(9))
	seen := map[string]int{}
	for range 8000 {
		var rules []string
		for i := range 1 + r.Intn(3) {
			rules = append(rules, pick(r, "", "_")+"r"+strconv.Itoa(i))
		}
		names := append(slices.Clone(rules), "a", "_b", "a", "_b", `"x"`, `"y"`)
		text := "language l; token a /a/; token _b /b/; rule " + rules[0] + " = a _b " + strings.Join(rules[1:], " ") + " " + anyExpr(r, names[len(rules):], r.Intn(5)) + ";"
		for _, name := range rules[1:] {
			text += "rule " + name + " = " + pick(r, `"x" `, "") + anyExpr(r, names[1:], r.Intn(5)) + pick(r, ";", `| "y";`, "| ();")
		}
		l, fault := load.Load(text)
		if fault.Code != api.OK {
			continue
		}
		d, _, _, _ := defn.Parse(text)
		seen["languages"]++
		for range 5 {
			checkSentence(t, text, r, d, l, seen)
		}
	}
	enough(t, 500, seen, "languages", "great", "nodes without a child", "fields")
}
