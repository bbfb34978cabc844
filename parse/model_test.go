package parse_test

import (
	"math/rand"
	"slices"
	"strings"
	"testing"

	"trellis/api"
	"trellis/defn"
	"trellis/load"
	"trellis/scan"
	"trellis/state"
	"trellis/tree"
)

// The document's words, told plainly: what may come behind a row of tokens by the meaning of expressions, the run step by step, and parts by derivations.

// tongue: a language and its definition.
type tongue struct {
	text string
	defn api.Defn
	lang api.Lang
	*speech
}

// tongueOf: false if the text is no language's.
func tongueOf(text string) (tongue, bool) {
	d, _, _, _ := defn.Parse(text)
	l, fault := load.Load(text)
	if fault != (api.Fault{}) {
		return tongue{}, false
	}
	return tongue{text, d, l, speechOf(d, l.Gram)}, true
}

func loaded(t *testing.T, text string) tongue {
	t.Helper()
	x, ok := tongueOf(text)
	if !ok {
		t.Fatalf("%s is no language", text)
	}
	return x
}

// speech: the sentences of a definition by the meaning of its expressions: a symbol for each node, behind the tokens (0 is the end). No production of package grammar is asked, and no table.
type speech struct {
	tokens int
	start  int
	lhs    []int
	rhs    [][]int
	of     map[int][]int // by symbol its right sides
}

// speechOf: the tokens' numbers are the grammar's.
func speechOf(d api.Defn, g api.Gram) *speech {
	s := &speech{tokens: len(g.Terms), of: map[int][]int{}}
	first, named := map[string]int{}, map[string]int{}
	next := s.tokens
	for _, r := range d.Rules {
		first[r.Name] = next
		next += len(r.Expr)
		named[r.Name] = next - 1
	}
	s.start = named[d.Rules[0].Name]
	for _, r := range d.Rules {
		for i, n := range r.Expr {
			own, a, b := first[r.Name]+i, first[r.Name]+n.A, first[r.Name]+n.B
			switch n.Op {
			case api.GName:
				to, isRule := named[n.Text]
				if !isRule {
					to = slices.Index(g.Terms, api.TermDef{Name: n.Text})
				}
				s.add(own, to)
			case api.GLit:
				s.add(own, slices.Index(g.Terms, api.TermDef{Name: n.Text, Lit: true}))
			case api.GEmpty:
				s.add(own)
			case api.GSeq:
				s.add(own, a, b)
			case api.GAlt:
				s.add(own, a)
				s.add(own, b)
			case api.GStar:
				s.add(own)
				s.add(own, a, own)
			case api.GPlus:
				s.add(own, a)
				s.add(own, a, own)
			case api.GOpt:
				s.add(own)
				s.add(own, a)
			default: // fields and other names change nothing
				s.add(own, a)
			}
		}
	}
	return s
}

func (s *speech) add(lhs int, rhs ...int) {
	s.of[lhs] = append(s.of[lhs], len(s.rhs))
	s.lhs, s.rhs = append(s.lhs, lhs), append(s.rhs, rhs)
}

// met: a right side that has been met up to its dot since the place from. One of a rhs -1 is all of a sentence: the symbol start alone.
type met struct{ rhs, dot, from int }

func (s *speech) right(x met) []int {
	if x.rhs < 0 {
		return []int{s.start}
	}
	return s.rhs[x.rhs]
}

// chart: by place of a row what may have been met there.
type chart []map[met]bool

func (s *speech) begin() chart { return s.closed(chart{{}}, met{rhs: -1}) }

// more: the chart with one token more; nothing may have been met if the row is no prefix.
func (s *speech) more(c chart, token int) chart {
	var next []met
	for x := range c[len(c)-1] {
		if l := s.right(x); x.dot < len(l) && l[x.dot] == token {
			next = append(next, met{x.rhs, x.dot + 1, x.from})
		}
	}
	return s.closed(append(slices.Clip(c), map[met]bool{}), next...)
}

// closed: the last place has these, and all that they bring.
func (s *speech) closed(c chart, work ...met) chart {
	at := len(c) - 1
	for len(work) > 0 {
		x := work[len(work)-1]
		work = work[:len(work)-1]
		if c[at][x] {
			continue
		}
		c[at][x] = true
		l := s.right(x)
		if x.dot < len(l) {
			for _, i := range s.of[l[x.dot]] {
				work = append(work, met{i, 0, at})
				if len(s.rhs[i]) == 0 || s.hollow(c, l[x.dot], at) { // it may have been met already, with nothing
					work = append(work, met{x.rhs, x.dot + 1, x.from})
				}
			}
		} else if x.rhs >= 0 {
			for y := range c[x.from] {
				if m := s.right(y); y.dot < len(m) && m[y.dot] == s.lhs[x.rhs] {
					work = append(work, met{y.rhs, y.dot + 1, y.from})
				}
			}
		}
	}
	return c
}

// hollow: has the symbol been met with nothing at that place?
func (s *speech) hollow(c chart, sym, at int) bool {
	for _, i := range s.of[sym] {
		if c[at][met{i, len(s.rhs[i]), at}] {
			return true
		}
	}
	return false
}

// valid: the valid set behind the row of the chart.
func (s *speech) valid(c chart) api.Terms {
	var out api.Terms
	for x := range c[len(c)-1] {
		l := s.right(x)
		if x.dot < len(l) && l[x.dot] < s.tokens {
			out |= 1 << l[x.dot]
		}
		if x.rhs < 0 && x.dot == 1 {
			out |= 1
		}
	}
	return out
}

// leafOf: what a step that begins at a place is as a leaf.
func leafOf(x api.Step, at int, valid api.Terms) api.Leaf {
	bytes, code := state.Encode(x.After)
	if code != api.OK {
		panic("no state behind a step")
	}
	return api.Leaf{Term: x.Term, Pad: x.From - at, Len: x.To - x.From, Look: x.Look - at, Valid: valid, After: bytes}
}

// allEmpty: have the last so many leaves no byte, and are there as many?
func allEmpty(l []api.Leaf, n int) bool {
	return len(l) >= n && !slices.ContainsFunc(l[len(l)-n:], func(f api.Leaf) bool { return f.Len > 0 })
}

// plainRun: the run by DOC.md's words; without nodes.
func plainRun(x tongue, text string) api.Result {
	var leaves []api.Leaf
	s, at, c := state.Start(), 0, x.begin()
	for {
		valid := x.valid(c)
		step := scan.Next(x.lang.Rules, s, text, at, valid)
		ended := func(code api.Errno) api.Result {
			return api.Result{Code: code, At: step.From, Want: valid, Leaves: leaves}
		}
		switch {
		case step.Code == api.ErrNone:
			return ended(api.ErrSyntax)
		case step.Code != api.OK:
			return ended(step.Code)
		case step.Term == 0:
			return api.Result{At: len(text), Leaves: append(leaves, leafOf(step, at, valid))}
		case step.From == step.To && allEmpty(leaves, 64):
			return ended(api.ErrLoop)
		case len(leaves) == 65536:
			return ended(api.ErrLeaves)
		}
		leaves = append(leaves, leafOf(step, at, valid))
		s, at, c = step.After, step.To, x.more(c, step.Term)
	}
}

// sprout: a derivation: a token, or a symbol with its production and what the symbols of that come from.
type sprout struct {
	sym  int
	prod int // -1: it is a token
	kids []*sprout
	leaf int // its number, or that of the first one that is in it or behind it
	n    int // how many leaves are in it
}

// grower makes derivations as they come.
type grower struct {
	*rand.Rand
	lang  api.Lang
	low   []int // by production how deep it is at least
	terms []int // the tokens so far
}

func newGrower(r *rand.Rand, l api.Lang) *grower {
	g := &grower{Rand: r, lang: l}
	for range l.Gram.Prods {
		g.low = append(g.low, 1000)
	}
	for range l.Gram.Syms {
		for i, p := range l.Gram.Prods {
			deep := 0
			for _, ref := range p.Rhs {
				deep = max(deep, g.least(ref.Sym))
			}
			g.low[i] = deep + 1
		}
	}
	return g
}

// ways: the productions of a symbol.
func (g *grower) ways(sym int) []int {
	var out []int
	for i, p := range g.lang.Gram.Prods {
		if p.Lhs == sym-len(g.lang.Gram.Terms) && i > 0 {
			out = append(out, i)
		}
	}
	return out
}

func (g *grower) least(sym int) int {
	if sym < len(g.lang.Gram.Terms) {
		return 0
	}
	deep := 1000
	for _, i := range g.ways(sym) {
		deep = min(deep, g.low[i])
	}
	return deep
}

func (g *grower) grow(sym, deep int) *sprout {
	x := &sprout{sym: sym, prod: -1, leaf: len(g.terms), n: 1}
	if sym < len(g.lang.Gram.Terms) {
		g.terms = append(g.terms, sym)
		return x
	}
	ways := g.ways(sym)
	if deep <= 0 || len(g.terms) > 40 {
		ways = slices.DeleteFunc(ways, func(i int) bool { return g.low[i] > g.least(sym) })
	}
	x.prod = pick(g.Rand, ways...)
	for _, ref := range g.lang.Gram.Prods[x.prod].Rhs {
		x.kids = append(x.kids, g.grow(ref.Sym, deep-1))
	}
	x.n = len(g.terms) - x.leaf
	return x
}

// nodes: those of a derivation by Token and Reduce; ends has by leaf where it ends, ahead of all 0.
func (x *sprout) nodes(l api.Lang, from, ends []int) []api.Node {
	if x.prod < 0 {
		return tree.Token(l, x.sym, x.leaf, from[x.leaf], ends[x.leaf+1])
	}
	var kids [][]api.Node
	behind := []int{ends[x.leaf]}
	for _, k := range x.kids {
		kids = append(kids, k.nodes(l, from, ends))
		behind = append(behind, ends[k.leaf+k.n])
	}
	return tree.Reduce(l, x.prod, kids, behind)
}

// parts: on the way down to a leaf what stands to the left of it, and the leaf's token.
func (x *sprout) parts(leaf int) []*sprout {
	if x.prod < 0 {
		return []*sprout{x}
	}
	var out []*sprout
	for _, k := range x.kids {
		if k.leaf <= leaf && leaf < k.leaf+k.n {
			return append(out, k.parts(leaf)...)
		}
		out = append(out, k)
	}
	panic("the leaf is not there")
}

// places: where leaves begin, behind their pads, and end; the ends with a 0 ahead.
func places(leaves []api.Leaf) (from, ends []int) {
	ends = []int{0}
	at := 0
	for _, f := range leaves {
		from = append(from, at+f.Pad)
		at += f.Pad + f.Len
		ends = append(ends, at)
	}
	return from, ends
}

// plainNodes: of all leaves of a derivation the tree; of the first n of them the parts' nodes.
func plainNodes(l api.Lang, x *sprout, leaves []api.Leaf, n int) []api.Node {
	from, ends := places(leaves)
	if n > len(leaves) {
		return x.nodes(l, from, ends)
	}
	if n == 0 {
		return nil
	}
	var out []api.Node
	for _, p := range x.parts(n - 1) {
		out = append(out, tree.Show(l, p.sym, p.nodes(l, from, ends))...)
	}
	return out
}

func pick[T any](r *rand.Rand, l ...T) T { return l[r.Intn(len(l))] }

// anyExpr: an expression with n operators or less. All tokens are single letters.
func anyExpr(r *rand.Rand, rules []string, n int) string {
	if n == 0 {
		as := pick(r, "", "", "", "@n", "@_m")
		switch k := r.Intn(12); {
		case k == 0:
			return "()"
		case k < 4:
			return pick(r, rules...) + as
		case k < 6:
			return pick(r, "x", "_y") + as
		}
		return pick(r, `"a"`, `"b"`, `"c"`) + as
	}
	left := r.Intn(n)
	switch r.Intn(9) {
	case 0, 1, 2, 3:
		return "(" + anyExpr(r, rules, left) + " " + anyExpr(r, rules, n-1-left) + ")"
	case 4, 5:
		return "(" + anyExpr(r, rules, left) + " | " + anyExpr(r, rules, n-1-left) + ")"
	case 6:
		return pick(r, "f", "g") + ": (" + anyExpr(r, rules, n-1) + ")"
	}
	return "(" + anyExpr(r, rules, n-1) + ")" + pick(r, "*", "+", "?")
}

// anyText: a definition's, which may be no language.
func anyText(r *rand.Rand) string {
	rules := []string{"r", "_s", "t", "_u"}[:1+r.Intn(4)]
	if r.Intn(2) == 0 {
		rules = []string{"_s", "r", "_u", "t"}[:1+r.Intn(4)]
	}
	var out strings.Builder
	out.WriteString("language l; skip / +/; ")
	for i, name := range rules {
		call := strings.Join(rules[min(i+1, len(rules)):min(i+2, len(rules))], " ") // so that each is reached
		out.WriteString("rule " + name + " = " + pick(r, "", `"a" `, `"b" `) + anyExpr(r, rules, r.Intn(6)) + " " + call + pick(r, "", ` | "c"`, " | ()") + "; ")
	}
	for _, name := range []string{"x", "_y"} {
		if strings.Contains(out.String(), name) {
			out.WriteString("token " + name + " /" + name[len(name)-1:] + "/; ")
		}
	}
	return out.String()
}

// anyTongue: a language as it comes.
func anyTongue(r *rand.Rand) tongue {
	for {
		if x, ok := tongueOf(anyText(r)); ok {
			return x
		}
	}
}

// enough: fails if one of the kinds has come up too seldom for the test to tell anything.
func enough(t *testing.T, least int, seen map[string]int, kinds ...string) {
	t.Helper()
	for _, k := range kinds {
		if seen[k] < least {
			t.Errorf("only %d of %q: %v", seen[k], k, seen)
		}
	}
}
