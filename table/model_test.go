package table_test

import (
	"math/big"
	"math/rand"
	"slices"
	"strings"
	"testing"

	"trellis/api"
	"trellis/defn"
	"trellis/grammar"
	"trellis/items"
)

// The chapter's words, told plainly: the actions one by one, images by great numbers, valid sets by what may stand at each place of a row.

func row(l ...int) []api.Ref {
	var out []api.Ref
	for _, s := range l {
		out = append(out, api.Ref{Sym: s})
	}
	return out
}

func prod(lhs int, l ...int) api.Prod { return api.Prod{Lhs: lhs, Rhs: row(l...)} }

// gram: with so many tokens and Syms; production 0 comes ahead of those that are given.
func gram(tokens, syms int, prods ...api.Prod) api.Gram {
	return api.Gram{Terms: make([]api.TermDef, tokens), Syms: make([]api.Sym, syms), Prods: append([]api.Prod{prod(-1, tokens)}, prods...)}
}

// read: the definition of these lines, and its grammar; false if it is not well formed.
func read(t *testing.T, lines string) (api.Defn, api.Gram, bool) {
	t.Helper()
	d, _, code, at := defn.Parse("language l; " + lines)
	if code != api.OK {
		t.Fatalf("%s: %d at %d", lines, code, at)
	}
	g, _, flaw := grammar.Build(d)
	return d, g, flaw.Code == api.OK
}

func shift(n int) api.Action  { return api.Action{Kind: api.ActionShift, N: n} }
func reduce(n int) api.Action { return api.Action{Kind: api.ActionReduce, N: n} }
func accept() api.Action      { return api.Action{Kind: api.ActionAccept} }

// plainActions: all that are unlike, of a state and a token.
func plainActions(g api.Gram, set []api.Item, to []int, token int) []api.Action {
	var out []api.Action
	if to[token] != -1 {
		out = append(out, shift(to[token]))
	}
	for _, x := range set {
		if x.Look == token && x.Dot == len(g.Prods[x.Prod].Rhs) {
			a := reduce(x.Prod)
			if x.Prod == 0 {
				a = accept()
			}
			if !slices.Contains(out, a) {
				out = append(out, a)
			}
		}
	}
	return out
}

// answer: what Build says.
type answer struct {
	table        api.Table
	code         api.Errno
	state, token int
}

func (a answer) equal(b answer) bool {
	return same(a.table, b.table) && a.code == b.code && a.state == b.state && a.token == b.token
}

// same: with nil and empty lists alike.
func same(a, b api.Table) bool {
	return slices.EqualFunc(a.Actions, b.Actions, slices.Equal) && slices.EqualFunc(a.Gotos, b.Gotos, slices.Equal)
}

// plainBuild: by states and tokens from the least on.
func plainBuild(g api.Gram) answer {
	sets, gotos, code := items.Sets(g)
	if code != api.OK {
		return answer{api.Table{}, code, -1, -1}
	}
	out := answer{}
	for i := range sets {
		var row []api.Action
		for token := range g.Terms {
			l := plainActions(g, sets[i], gotos[i], token)
			if len(l) > 1 {
				return answer{api.Table{}, api.ErrConflict, i, token}
			}
			row = append(row, append(l, api.Action{})[0])
		}
		var behind []int
		for place := range g.Syms {
			behind = append(behind, gotos[i][len(g.Terms)+place])
		}
		out.table.Actions, out.table.Gotos = append(out.table.Actions, row), append(out.table.Gotos, behind)
	}
	return out
}

// plainShaped: the chapter's words.
func plainShaped(t api.Table) bool {
	n := len(t.Actions)
	if n < 1 || n > 2048 || len(t.Gotos) != n {
		return false
	}
	for i := range n {
		if len(t.Actions[i]) < 1 || len(t.Actions[i]) > 64 || len(t.Actions[i]) != len(t.Actions[0]) {
			return false
		}
		if len(t.Gotos[i]) > 128 || len(t.Gotos[i]) != len(t.Gotos[0]) {
			return false
		}
		for _, a := range t.Actions[i] {
			none, accepts := a == api.Action{}, a == accept()
			shifts := a.Kind == 1 && 0 <= a.N && a.N <= n-1
			reduces := a.Kind == 2 && 0 <= a.N && a.N <= 255
			if !none && !accepts && !shifts && !reduces {
				return false
			}
		}
		if slices.ContainsFunc(t.Gotos[i], func(to int) bool { return to < -1 || to > n-1 }) {
			return false
		}
	}
	return true
}

// group: the bits of a number from the group's place on, seven of them.
func group(n *big.Int, place int) byte {
	return byte(new(big.Int).And(new(big.Int).Rsh(n, uint(7*place)), big.NewInt(127)).Int64())
}

// plainCount: as few groups as may be.
func plainCount(n *big.Int) string {
	groups := max(1, (n.BitLen()+6)/7)
	var out []byte
	for i := range groups {
		b := group(n, i)
		if i < groups-1 {
			b += 128
		}
		out = append(out, b)
	}
	return string(out)
}

func counts(l ...int) string {
	out := ""
	for _, n := range l {
		out += plainCount(big.NewInt(int64(n)))
	}
	return out
}

// plainImage: of a table that is well shaped; else nothing.
func plainImage(t api.Table) string {
	if !plainShaped(t) {
		return ""
	}
	var out strings.Builder
	out.Write([]byte{84, 1})
	out.WriteString(counts(len(t.Actions), len(t.Actions[0]), len(t.Gotos[0])))
	for _, row := range t.Actions {
		for _, a := range row {
			out.WriteString(counts([]int{0, 2*a.N + 2, 2*a.N + 3, 1}[a.Kind]))
		}
	}
	for _, row := range t.Gotos {
		for _, to := range row {
			out.WriteString(counts(to + 1))
		}
	}
	return out.String()
}

// readCount: the count at a place, and the place behind it; false if there is none.
func readCount(image string, at int) (*big.Int, int, bool) {
	n := new(big.Int)
	for i := at; i < len(image); i++ {
		n.Or(n, new(big.Int).Lsh(big.NewInt(int64(image[i]%128)), uint(7*(i-at))))
		if image[i] < 128 {
			return n, i + 1, plainCount(n) == image[at:i+1] && n.BitLen() <= 63
		}
	}
	return nil, 0, false
}

// plainRead: the table of an image and -1; or none, and the place of what cannot be.
func plainRead(image string) (api.Table, int) {
	for i, b := range []byte{84, 1} {
		if i == len(image) || image[i] != b {
			return api.Table{}, i
		}
	}
	at, fault := 2, -1
	next := func(fits func(n int64) bool) int {
		if fault >= 0 {
			return 0
		}
		n, behind, ok := readCount(image, at)
		if !ok || !fits(n.Int64()) {
			fault = at
			return 0
		}
		at = behind
		return int(n.Int64())
	}
	states := next(func(n int64) bool { return 1 <= n && n <= 2048 })
	tokens := next(func(n int64) bool { return 1 <= n && n <= 64 })
	syms := next(func(n int64) bool { return n <= 128 })
	var t api.Table
	for i := 0; i < states && fault < 0; i++ {
		var row []api.Action
		for range tokens {
			n := next(func(n int64) bool {
				return n < 2 || n%2 == 0 && (n-2)/2 < int64(states) || n%2 == 1 && (n-3)/2 < 256
			})
			switch {
			case n == 0:
				row = append(row, api.Action{})
			case n == 1:
				row = append(row, accept())
			case n%2 == 0:
				row = append(row, shift(n/2-1))
			default:
				row = append(row, reduce((n-3)/2))
			}
		}
		t.Actions = append(t.Actions, row)
	}
	for i := 0; i < states && fault < 0; i++ {
		var row []int
		for range syms {
			row = append(row, next(func(n int64) bool { return n <= int64(states) })-1)
		}
		t.Gotos = append(t.Gotos, row)
	}
	if fault < 0 && at < len(image) {
		fault = at
	}
	if fault >= 0 {
		return api.Table{}, fault
	}
	return t, -1
}

// speech: the sentences of a definition by the meaning of its expressions: a symbol for each node, behind the tokens (0 is the end). No production of package grammar is asked, and no set of items.
type speech struct {
	tokens int
	start  int
	lhs    []int
	rhs    [][]int
}

// speechOf: the tokens' numbers are the grammar's.
func speechOf(d api.Defn, g api.Gram) *speech {
	s := &speech{tokens: len(g.Terms)}
	first := map[string]int{}
	next := s.tokens
	for _, r := range d.Rules {
		first[r.Name] = next
		next += len(r.Expr)
	}
	root := func(r api.RuleDef) int { return first[r.Name] + len(r.Expr) - 1 }
	named := map[string]int{}
	for _, r := range d.Rules {
		named[r.Name] = root(r)
	}
	s.start = root(d.Rules[0])
	for _, r := range d.Rules {
		for i, n := range r.Expr {
			own, a, b := first[r.Name]+i, first[r.Name]+n.A, first[r.Name]+n.B
			switch n.Op {
			case api.GName:
				to, isRule := named[n.Text]
				if !isRule {
					to = slices.Index(g.Terms, api.TermDef{Name: n.Text})
				}
				s.add(own, to)
			case api.GLit:
				s.add(own, slices.Index(g.Terms, api.TermDef{Name: n.Text, Lit: true}))
			case api.GEmpty:
				s.add(own)
			case api.GSeq:
				s.add(own, a, b)
			case api.GAlt:
				s.add(own, a)
				s.add(own, b)
			case api.GStar:
				s.add(own)
				s.add(own, a, own)
			case api.GPlus:
				s.add(own, a)
				s.add(own, a, own)
			case api.GOpt:
				s.add(own)
				s.add(own, a)
			default: // fields and other names change nothing
				s.add(own, a)
			}
		}
	}
	return s
}

func (s *speech) add(lhs int, rhs ...int) {
	s.lhs, s.rhs = append(s.lhs, lhs), append(s.rhs, rhs)
}

// part: a right side that has been met up to its dot since the place from. One of a rhs -1 is all of a sentence: the symbol start alone.
type part struct{ rhs, dot, from int }

func (s *speech) right(x part) []int {
	if x.rhs < 0 {
		return []int{s.start}
	}
	return s.rhs[x.rhs]
}

// chart: by place of a row what may have been met there.
type chart []map[part]bool

func (s *speech) begin() chart { return s.closed(chart{{part{rhs: -1}: true}}) }

// more: the chart with one token more; nothing may have been met if the row is no prefix.
func (s *speech) more(c chart, token int) chart {
	next := map[part]bool{}
	for x := range c[len(c)-1] {
		if l := s.right(x); x.dot < len(l) && l[x.dot] == token {
			next[part{x.rhs, x.dot + 1, x.from}] = true
		}
	}
	return s.closed(append(slices.Clip(c), next))
}

// closed: all that the last place brings, again and again until nothing comes.
func (s *speech) closed(c chart) chart {
	at := len(c) - 1
	for grown := true; grown; {
		grown = false
		for _, x := range keys(c[at]) {
			for _, y := range s.brought(c, x, at) {
				grown = grown || !c[at][y]
				c[at][y] = true
			}
		}
	}
	return c
}

func keys(m map[part]bool) []part {
	var out []part
	for x := range m {
		out = append(out, x)
	}
	return out
}

func (s *speech) brought(c chart, x part, at int) []part {
	var out []part
	l := s.right(x)
	if x.dot < len(l) {
		for i, lhs := range s.lhs {
			if lhs == l[x.dot] {
				out = append(out, part{i, 0, at})
			}
		}
	} else if x.rhs >= 0 {
		for y := range c[x.from] {
			if m := s.right(y); y.dot < len(m) && m[y.dot] == s.lhs[x.rhs] {
				out = append(out, part{y.rhs, y.dot + 1, y.from})
			}
		}
	}
	return out
}

// valid: the valid set behind the row of the chart.
func (s *speech) valid(c chart) api.Terms {
	var out api.Terms
	for x := range c[len(c)-1] {
		l := s.right(x)
		if x.dot < len(l) && l[x.dot] < s.tokens {
			out |= 1 << l[x.dot]
		}
		if x.rhs < 0 && x.dot == 1 {
			out |= 1
		}
	}
	return out
}

// anyGram: a right one, of up to so many tokens, Syms and productions.
func anyGram(r *rand.Rand, tokens, syms, prods int) api.Gram {
	g := gram(1+r.Intn(tokens), 1+r.Intn(syms))
	longest := 1 + r.Intn(4)
	for range r.Intn(prods + 1) {
		var l []api.Ref
		for range r.Intn(longest + 1) {
			s := len(g.Terms) + r.Intn(len(g.Syms))
			if len(g.Terms) > 1 && r.Intn(3) > 0 {
				s = 1 + r.Intn(len(g.Terms)-1)
			}
			l = append(l, api.Ref{Sym: s})
		}
		g.Prods = append(g.Prods, api.Prod{Lhs: r.Intn(len(g.Syms)), Rhs: l})
	}
	return g
}

func pick[T any](r *rand.Rand, l ...T) T { return l[r.Intn(len(l))] }

// anyExpr: an expression with n operators or less.
func anyExpr(r *rand.Rand, rules []string, n int) string {
	if n == 0 {
		switch k := r.Intn(12); {
		case k == 0:
			return "()"
		case k < 4:
			return pick(r, rules...)
		case k < 6:
			return pick(r, "x", "_y")
		}
		return pick(r, `"a"`, `"b"`, `"c"`)
	}
	left := r.Intn(n)
	switch r.Intn(9) {
	case 0, 1, 2, 3:
		return "(" + anyExpr(r, rules, left) + " " + anyExpr(r, rules, n-1-left) + ")"
	case 4, 5:
		return "(" + anyExpr(r, rules, left) + " | " + anyExpr(r, rules, n-1-left) + ")"
	case 6:
		return "(f: " + anyExpr(r, rules, n-1) + ")"
	}
	return anyExpr(r, rules, n-1) + pick(r, "*", "+", "?")
}

// anyLines: those of a definition, which may not be well formed.
func anyLines(r *rand.Rand) string {
	rules := []string{"r", "_s", "t", "u"}[:1+r.Intn(4)]
	var out strings.Builder
	for _, name := range rules {
		out.WriteString("rule " + name + " = " + anyExpr(r, rules, r.Intn(6)) + "; ")
	}
	for _, name := range []string{"x", "_y"} {
		if strings.Contains(out.String(), name) {
			out.WriteString("token " + name + " /" + name + "/; ")
		}
	}
	return out.String()
}

// anyTable: one that is well shaped.
func anyTable(r *rand.Rand, states, tokens, syms int) api.Table {
	n, width, places := 1+r.Intn(states), 1+r.Intn(tokens), r.Intn(syms+1)
	var t api.Table
	for range n {
		row, behind := []api.Action(nil), []int(nil)
		for range width {
			row = append(row, pick(r, api.Action{}, api.Action{}, accept(), shift(r.Intn(n)), shift(n-1), reduce(r.Intn(256)), reduce(0), reduce(255)))
		}
		for range places {
			behind = append(behind, pick(r, -1, -1, r.Intn(n), n-1))
		}
		t.Actions, t.Gotos = append(t.Actions, row), append(t.Gotos, behind)
	}
	return t
}
