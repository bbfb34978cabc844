package grammar_test

import (
	"reflect"
	"slices"
	"strings"
	"testing"

	"trellis/api"
	"trellis/defn"
	"trellis/regex"
)

// The chapter's words told plainly, for definitions that are small.

// alike: the same value; a nil list is an empty one.
func alike(a, b any) bool { return alikeValues(reflect.ValueOf(a), reflect.ValueOf(b)) }

func alikeValues(a, b reflect.Value) bool {
	switch a.Kind() {
	case reflect.Slice, reflect.Array:
		if a.Len() != b.Len() {
			return false
		}
		for i := range a.Len() {
			if !alikeValues(a.Index(i), b.Index(i)) {
				return false
			}
		}
		return true
	case reflect.Struct:
		for i := range a.NumField() {
			if !alikeValues(a.Field(i), b.Field(i)) {
				return false
			}
		}
		return true
	}
	return a.Equal(b)
}

// plain: a definition, and what chapter 10 says of it word by word.
type plain struct {
	d      api.Defn
	lits   []string
	tokens []string
	auxes  [][2]int // by aux symbol: its rule and its node
}

func newPlain(d api.Defn) *plain {
	p := &plain{d: d}
	for i, r := range d.Rules {
		for j, n := range r.Expr {
			if n.Op == api.GLit && !slices.Contains(p.lits, n.Text) {
				p.lits = append(p.lits, n.Text)
			}
			if p.hasSym(r.Expr, j) {
				p.auxes = append(p.auxes, [2]int{i, j})
			}
		}
	}
	for _, s := range d.Scans {
		if s.Term != "" && !slices.Contains(p.tokens, s.Term) {
			p.tokens = append(p.tokens, s.Term)
		}
	}
	return p
}

func (p *plain) hasSym(t []api.GNode, i int) bool {
	switch t[i].Op {
	case api.GStar, api.GPlus, api.GOpt:
		return true
	case api.GAlt:
		inAlt := slices.ContainsFunc(t, func(n api.GNode) bool { return n.Op == api.GAlt && (n.A == i || n.B == i) })
		return i != len(t)-1 && !inAlt
	}
	return false
}

func (p *plain) terms() int { return 1 + len(p.lits) + len(p.tokens) }

func (p *plain) rule(name string) int {
	return slices.IndexFunc(p.d.Rules, func(r api.RuleDef) bool { return r.Name == name })
}

func (p *plain) mode(name string) int {
	return slices.IndexFunc(p.d.Modes, func(m api.ModeDef) bool { return m.Name == name })
}

// alternatives: the places of those of a node.
func (p *plain) alternatives(t []api.GNode, i int) []int {
	if t[i].Op != api.GAlt {
		return []int{i}
	}
	return append(p.alternatives(t, t[i].A), p.alternatives(t, t[i].B)...)
}

// row: that of the node j of the rule i.
func (p *plain) row(i, j int) []api.Ref {
	n := p.d.Rules[i].Expr[j]
	if k := slices.Index(p.auxes, [2]int{i, j}); k >= 0 {
		return []api.Ref{{Sym: p.terms() + len(p.d.Rules) + k}}
	}
	switch n.Op {
	case api.GName:
		if k := slices.Index(p.tokens, n.Text); k >= 0 {
			return []api.Ref{{Sym: 1 + len(p.lits) + k}}
		}
		return []api.Ref{{Sym: p.terms() + p.rule(n.Text)}}
	case api.GLit:
		return []api.Ref{{Sym: 1 + slices.Index(p.lits, n.Text)}}
	case api.GSeq:
		return append(p.row(i, n.A), p.row(i, n.B)...)
	case api.GField:
		l := p.row(i, n.A)
		for k := range l {
			if l[k].Field == "" {
				l[k].Field = n.Text
			}
		}
		return l
	case api.GAs:
		l := p.row(i, n.A)
		l[0].As = n.Text
		return l
	}
	return nil
}

func (p *plain) gram() api.Gram {
	g := api.Gram{Terms: []api.TermDef{{}}, Prods: []api.Prod{{Lhs: -1, Rhs: []api.Ref{{Sym: p.terms()}}}}}
	for _, text := range p.lits {
		g.Terms = append(g.Terms, api.TermDef{Name: text, Lit: true})
	}
	for _, name := range p.tokens {
		g.Terms = append(g.Terms, api.TermDef{Name: name})
	}
	add := func(row []api.Ref) { g.Prods = append(g.Prods, api.Prod{Lhs: len(g.Syms) - 1, Rhs: row}) }
	for i, r := range p.d.Rules {
		kind := api.SymShown
		if r.Name[0] == '_' {
			kind = api.SymHidden
		}
		g.Syms = append(g.Syms, api.Sym{Name: r.Name, Kind: kind})
		for _, j := range p.alternatives(r.Expr, len(r.Expr)-1) {
			add(p.row(i, j))
		}
	}
	for k, at := range p.auxes {
		g.Syms = append(g.Syms, api.Sym{Kind: api.SymAux})
		t := p.d.Rules[at[0]].Expr
		n := t[at[1]]
		self := api.Ref{Sym: p.terms() + len(p.d.Rules) + k}
		switch n.Op {
		case api.GStar:
			add(nil)
			add(append([]api.Ref{self}, p.row(at[0], n.A)...))
		case api.GPlus:
			add(p.row(at[0], n.A))
			add(append([]api.Ref{self}, p.row(at[0], n.A)...))
		case api.GOpt:
			add(nil)
			add(p.row(at[0], n.A))
		case api.GAlt:
			for _, j := range p.alternatives(t, at[1]) {
				add(p.row(at[0], j))
			}
		}
	}
	return g
}

func (p *plain) rules() []api.Rule {
	open := []int{-1}
	for i, m := range p.d.Modes {
		if m.Open {
			open = append(open, i)
		}
	}
	var out []api.Rule
	for i, text := range p.lits {
		out = append(out, api.Rule{Term: i + 1, Pat: api.PatLit, Lit: text, In: open})
	}
	for _, s := range p.d.Scans {
		r := api.Rule{Term: -1, Pat: s.Pat, Re: s.Re, Lit: s.Lit, In: open}
		if s.Term != "" {
			r.Term = 1 + len(p.lits) + slices.Index(p.tokens, s.Term)
		}
		if len(s.In) > 0 {
			r.In = nil
		}
		for _, name := range s.In {
			r.In = append(r.In, p.mode(name))
		}
		for _, x := range s.Tests {
			n := 0
			if x.Name != "" {
				n = slices.Index(p.d.Flags, x.Name)
			}
			r.Tests = append(r.Tests, api.Test{Kind: x.Kind, N: n})
		}
		for _, x := range s.Acts {
			a := api.Act{Kind: x.Kind, N: x.N}
			switch x.Kind {
			case api.ActEnter:
				a.M = p.mode(x.Name)
			case api.ActSet, api.ActClear:
				a.N = slices.Index(p.d.Flags, x.Name)
			}
			r.Acts = append(r.Acts, a)
		}
		out = append(out, r)
	}
	return out
}

// fruit: does a row of tokens come from the node, if one comes from just these rules?
func (p *plain) fruit(t []api.GNode, i int, rules map[string]bool) bool {
	n := t[i]
	switch n.Op {
	case api.GName:
		return slices.Contains(p.tokens, n.Text) || rules[n.Text]
	case api.GSeq:
		return p.fruit(t, n.A, rules) && p.fruit(t, n.B, rules)
	case api.GAlt:
		return p.fruit(t, n.A, rules) || p.fruit(t, n.B, rules)
	case api.GPlus, api.GField, api.GAs:
		return p.fruit(t, n.A, rules)
	}
	return true
}

// barren: the first rule that is, -1 if none is.
func (p *plain) barren() int {
	known := map[string]bool{}
	for range p.d.Rules {
		for _, r := range p.d.Rules {
			known[r.Name] = known[r.Name] || p.fruit(r.Expr, len(r.Expr)-1, known)
		}
	}
	return slices.IndexFunc(p.d.Rules, func(r api.RuleDef) bool { return !known[r.Name] })
}

// stray: the first rule that is, -1 if none is.
func (p *plain) stray() int {
	led := map[string]bool{}
	var lead func(r api.RuleDef)
	lead = func(r api.RuleDef) {
		if led[r.Name] {
			return
		}
		led[r.Name] = true
		for _, n := range r.Expr {
			if i := p.rule(n.Text); n.Op == api.GName && i >= 0 {
				lead(p.d.Rules[i])
			}
		}
	}
	lead(p.d.Rules[0])
	return slices.IndexFunc(p.d.Rules, func(r api.RuleDef) bool { return !led[r.Name] })
}

// huge: as good as any greater weight.
const huge = 1 << 40

// weights: by Sym, round by round: what is known behind n rounds is the least weight by derivations that are n deep. 0: none.
func weights(g api.Gram) []int {
	w := make([]int, len(g.Syms))
	for range len(g.Syms) + 1 {
		next := slices.Clone(w)
		for _, p := range g.Prods[1:] {
			sum, all := together(g, p, w)
			if all && (next[p.Lhs] == 0 || sum+1 < next[p.Lhs]) {
				next[p.Lhs] = sum + 1
			}
		}
		w = next
	}
	return w
}

// together: the weights of a production's symbols, and whether all have one.
func together(g api.Gram, p api.Prod, w []int) (int, bool) {
	sum, all := 0, true
	for _, r := range p.Rhs {
		one := 0
		if r.Sym >= len(g.Terms) {
			one = w[r.Sym-len(g.Terms)]
		}
		all = all && one > 0
		sum = min(sum+one, huge)
	}
	return sum, all
}

// hollow: the first rule that is too hollow, -1 if none is.
func (p *plain) hollow() int {
	g := p.gram()
	w := weights(g)
	for i := range p.d.Rules {
		for j := range g.Syms {
			if j != i && (j < len(p.d.Rules) || p.auxes[j-len(p.d.Rules)][0] != i) {
				continue
			}
			heavy := slices.ContainsFunc(g.Prods[1:], func(q api.Prod) bool {
				sum, _ := together(g, q, w)
				return q.Lhs == j && sum > 64
			})
			if w[j] > 64 || heavy {
				return i
			}
		}
	}
	return -1
}

// texts: those of all nodes of a kind.
func (p *plain) texts(op api.GOp) []string {
	var out []string
	for _, r := range p.d.Rules {
		for _, n := range r.Expr {
			if n.Op == op {
				out = append(out, n.Text)
			}
		}
	}
	return out
}

func (p *plain) called(name string) bool {
	own := slices.Contains(p.tokens, name) || p.rule(name) >= 0
	return own && !strings.HasPrefix(name, "_") || slices.Contains(p.texts(api.GAs), name)
}

// scanCode: what is wrong with a scanning definition.
func (p *plain) scanCode(s api.ScanDef) api.Errno {
	unknown, twice := false, false
	for i, name := range s.In {
		unknown = unknown || p.mode(name) < 0
		twice = twice || slices.Index(s.In, name) < i
	}
	for _, x := range s.Tests {
		unknown = unknown || x.Name != "" && !slices.Contains(p.d.Flags, x.Name)
	}
	for _, x := range s.Acts {
		flag := x.Kind == api.ActSet || x.Kind == api.ActClear
		unknown = unknown || flag && !slices.Contains(p.d.Flags, x.Name) || x.Kind == api.ActEnter && p.mode(x.Name) < 0
	}
	switch {
	case unknown:
		return api.ErrUnknown
	case twice:
		return api.ErrTwice
	case s.Pat == api.PatRegex && regex.Matches(s.Re, ""):
		return api.ErrNullable
	case s.Pat == api.PatLit && (s.Lit == "" || len(s.Lit) > 16):
		return api.ErrLit
	case s.Term == "" && s.Pat == api.PatEmpty:
		return api.ErrPattern
	}
	return api.OK
}

// flaws: all flaws of the parts' own, in their order; the first one counts.
func (p *plain) flaws() []api.Flaw {
	var out []api.Flaw
	tell := func(is bool, code api.Errno, part api.Part, index, sub int) {
		if is {
			out = append(out, api.Flaw{Code: code, Part: part, Index: index, Sub: sub})
		}
	}
	tell(len(p.d.Rules) == 0, api.ErrNoRule, api.PartNone, 0, 0)
	for i, m := range p.d.Modes {
		tell(p.mode(m.Name) < i, api.ErrTwice, api.PartMode, i, 0)
		tell(i >= 16, api.ErrTerms, api.PartMode, i, 0)
	}
	for i, f := range p.d.Flags {
		tell(slices.Index(p.d.Flags, f) < i, api.ErrTwice, api.PartFlag, i, 0)
		tell(i >= 16, api.ErrTerms, api.PartFlag, i, 0)
	}
	for i, s := range p.d.Scans {
		code := p.scanCode(s)
		tell(code != api.OK, code, api.PartScan, i, 0)
	}
	for i, r := range p.d.Rules {
		tell(p.rule(r.Name) < i || slices.Contains(p.tokens, r.Name), api.ErrTwice, api.PartRule, i, -1)
		for j, n := range r.Expr {
			tell(n.Op == api.GName && !slices.Contains(p.tokens, n.Text) && p.rule(n.Text) < 0, api.ErrUnknown, api.PartRule, i, j)
			tell(n.Op == api.GLit && (n.Text == "" || len(n.Text) > 16), api.ErrLit, api.PartRule, i, j)
		}
	}
	for i, s := range p.d.Scans {
		tell(s.Term != "" && !slices.Contains(p.texts(api.GName), s.Term), api.ErrUnused, api.PartScan, i, 0)
	}
	tell(p.terms() > 64, api.ErrTerms, api.PartNone, 0, 0)
	return out
}

// lines: the flaws of the paint, fold, mark and inject lines.
func (p *plain) lines() []api.Flaw {
	var out []api.Flaw
	tell := func(part api.Part, i int, known bool, name func(int) string) {
		if !known {
			out = append(out, api.Flaw{Code: api.ErrUnknown, Part: part, Index: i})
		}
		for j := range i {
			if name(j) == name(i) {
				out = append(out, api.Flaw{Code: api.ErrTwice, Part: part, Index: i})
			}
		}
	}
	for i, x := range p.d.Paints {
		tell(api.PartPaint, i, p.called(x.Name) || slices.Contains(p.lits, x.Name), func(i int) string { return p.d.Paints[i].Name })
	}
	for i, x := range p.d.Folds {
		tell(api.PartFold, i, p.called(x), func(i int) string { return p.d.Folds[i] })
	}
	for i, x := range p.d.Marks {
		tell(api.PartMark, i, p.called(x.Name) && slices.Contains(p.texts(api.GField), x.Field), func(i int) string { return p.d.Marks[i].Name })
	}
	for i, x := range p.d.Injects {
		tell(api.PartInject, i, p.called(x.Name), func(i int) string { return p.d.Injects[i].Name })
	}
	return out
}

func plainCheck(d api.Defn) api.Flaw {
	if !defn.Shaped(d) {
		return api.Flaw{Code: api.ErrShape}
	}
	p := newPlain(d)
	if l := p.flaws(); len(l) > 0 {
		return l[0]
	}
	if g := p.gram(); len(g.Syms) > 128 || len(g.Prods) > 256 || len(p.lits)+len(d.Scans) > 128 {
		return api.Flaw{Code: api.ErrProds}
	}
	for _, c := range []struct {
		code api.Errno
		find func() int
	}{{api.ErrBarren, p.barren}, {api.ErrStray, p.stray}, {api.ErrHollow, p.hollow}} {
		if i := c.find(); i >= 0 {
			return api.Flaw{Code: c.code, Part: api.PartRule, Index: i, Sub: -1}
		}
	}
	if l := p.lines(); len(l) > 0 {
		return l[0]
	}
	return api.Flaw{}
}

// enough: a random test has met each of these kinds often enough to tell something.
func enough(t *testing.T, seen map[string]int, least int, kinds ...string) {
	t.Helper()
	for _, k := range kinds {
		if seen[k] < least {
			t.Errorf("%s: only %d times", k, seen[k])
		}
	}
}
