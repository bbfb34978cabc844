package grammar_test

import (
	"math/rand"
	"slices"
	"strconv"
	"strings"

	"trellis/api"
	"trellis/regex"
)

// Definitions of all kinds.

func pick[T any](r *rand.Rand, l ...T) T { return l[r.Intn(len(l))] }

// pool: what a random definition is made of.
type pool struct {
	*rand.Rand
	tokens, rules, lits, fields, called, modes, flags []string
}

func newPool(r *rand.Rand, n int) *pool {
	p := &pool{Rand: r}
	named := func(stem string, n int, hide bool) []string {
		var out []string
		for i := range n {
			name := stem + strconv.Itoa(i)
			if hide && r.Intn(3) == 0 {
				name = "_" + name
			}
			out = append(out, name)
		}
		return out
	}
	p.tokens = named("t", r.Intn(n+1), true)
	p.rules = named("r", 1+r.Intn(n), true)
	p.lits = []string{"+", "_x", "t9", strings.Repeat("l", 16), "\x00\xff"}[:r.Intn(min(n, 5)+1)]
	p.fields = []string{"f", "g", "_h"}
	p.called = []string{"c", "_d", "e"}
	p.modes = named("m", r.Intn(4), true)
	p.flags = named("f", r.Intn(4), true)
	return p
}

// leaf: a name, a literal or nothing, called something or not.
func (p *pool) leaf() []api.GNode {
	var out []api.GNode
	names := slices.Concat(p.tokens, p.rules)
	switch k := p.Intn(10); {
	case k == 0:
		return []api.GNode{{Op: api.GEmpty, A: -1, B: -1}}
	case k < 4 && len(p.lits) > 0:
		out = []api.GNode{{Op: api.GLit, Text: pick(p.Rand, p.lits...), A: -1, B: -1}}
	default:
		out = []api.GNode{{Op: api.GName, Text: pick(p.Rand, names...), A: -1, B: -1}}
	}
	if p.Intn(5) == 0 {
		out = append(out, api.GNode{Op: api.GAs, Text: pick(p.Rand, p.called...), A: 0, B: -1})
	}
	return out
}

// expr: a tree with n operators or less.
func (p *pool) expr(n int) []api.GNode {
	if n == 0 {
		return p.leaf()
	}
	switch op := pick(p.Rand, api.GSeq, api.GSeq, api.GSeq, api.GAlt, api.GAlt, api.GStar, api.GPlus, api.GOpt, api.GField); op {
	case api.GSeq, api.GAlt:
		left := p.Intn(n)
		return two(op, p.expr(left), p.expr(n-1-left))
	case api.GField:
		return one(op, pick(p.Rand, p.fields...), p.expr(n-1))
	default:
		return one(op, "", p.expr(n-1))
	}
}

// one, two: a node above one tree, or two.
func one(op api.GOp, text string, a []api.GNode) []api.GNode {
	return append(slices.Clone(a), api.GNode{Op: op, Text: text, A: len(a) - 1, B: -1})
}

func two(op api.GOp, a, b []api.GNode) []api.GNode {
	out := slices.Clone(a)
	for _, n := range b {
		if n.A >= 0 {
			n.A += len(a)
		}
		if n.B >= 0 {
			n.B += len(a)
		}
		out = append(out, n)
	}
	return append(out, api.GNode{Op: op, A: len(a) - 1, B: len(out) - 1})
}

func leaf(op api.GOp, text string) []api.GNode {
	return []api.GNode{{Op: op, Text: text, A: -1, B: -1}}
}

func (p *pool) scan(term string) api.ScanDef {
	s := api.ScanDef{Term: term, Pat: api.PatKind(1 + p.Intn(5))}
	if term == "" && s.Pat == api.PatEmpty {
		s.Pat = api.PatBody
	}
	switch s.Pat {
	case api.PatRegex:
		s.Re, _, _ = regex.Parse(pick(p.Rand, "a", "[a-z]+", "(ab)*c", "a|b|(c|d)", "(a?)+b"))
	case api.PatLit:
		s.Lit = pick(p.Rand, "x", "+", strings.Repeat("k", 16))
	}
	for _, i := range p.Perm(len(p.modes))[:p.Intn(len(p.modes)+1)] {
		s.In = append(s.In, p.modes[i])
	}
	for range p.Intn(4) {
		t := api.TestDef{Kind: api.TestKind(1 + p.Intn(8))}
		if t.Kind == api.TestFlag || t.Kind == api.TestNoFlag {
			if len(p.flags) == 0 {
				continue
			}
			t.Name = pick(p.Rand, p.flags...)
		}
		s.Tests = append(s.Tests, t)
	}
	for range p.Intn(4) {
		if a, ok := p.act(); ok {
			s.Acts = append(s.Acts, a)
		}
	}
	return s
}

func (p *pool) act() (api.ActDef, bool) {
	a := api.ActDef{Kind: api.ActKind(1 + p.Intn(10))}
	names := []string{}
	switch a.Kind {
	case api.ActEnqueue:
		a.N = pick(p.Rand, 0, 1, api.MaxNumber)
		return a, true
	case api.ActEnter:
		a.N = pick(p.Rand, -1, 0, 1, api.MaxNumber)
		names = p.modes
	case api.ActSet, api.ActClear:
		names = p.flags
	default:
		return a, true
	}
	if len(names) == 0 {
		return a, false
	}
	a.Name = pick(p.Rand, names...)
	return a, true
}

// draft: a definition of these names; its rules may be barren or stray, its tokens unused.
func (p *pool) draft(ops int) api.Defn {
	d := api.Defn{Name: "l", Flags: p.flags}
	for _, name := range p.modes {
		d.Modes = append(d.Modes, api.ModeDef{Name: name, Open: p.Intn(2) == 0})
	}
	for _, name := range append(slices.Clone(p.tokens), p.tokens[:p.Intn(len(p.tokens)+1)]...) {
		d.Scans = append(d.Scans, p.scan(name))
	}
	for range p.Intn(3) {
		d.Scans = slices.Insert(d.Scans, p.Intn(len(d.Scans)+1), p.scan(""))
	}
	for _, name := range p.rules {
		d.Rules = append(d.Rules, api.RuleDef{Name: name, Expr: p.expr(p.Intn(ops + 1))})
	}
	return d
}

// also: an expression with one more alternative.
func also(d api.Defn, rule int, b []api.GNode) {
	d.Rules[rule].Expr = two(api.GAlt, d.Rules[rule].Expr, b)
}

// sound: a definition that has no flaw, but that it may be too hollow.
func (p *pool) sound(ops int) api.Defn {
	d := p.draft(ops)
	for _, name := range p.tokens {
		if !slices.Contains(newPlain(d).texts(api.GName), name) {
			also(d, p.Intn(len(d.Rules)), leaf(api.GName, name))
		}
	}
	for {
		m := newPlain(d)
		if i := m.barren(); i >= 0 {
			also(d, i, pick(p.Rand, leaf(api.GEmpty, ""), leaf(api.GLit, "."), one(api.GOpt, "", leaf(api.GName, p.rules[0]))))
			continue
		}
		i := m.stray()
		if i < 0 {
			break
		}
		also(d, p.Intn(i), leaf(api.GName, d.Rules[i].Name))
	}
	p.lines(&d)
	return d
}

// lines: paint, fold, mark and inject lines that are about nodes of the definition.
func (p *pool) lines(d *api.Defn) {
	m := newPlain(*d)
	var nodes []string
	for _, name := range slices.Concat(p.tokens, p.rules, p.called) {
		if m.called(name) {
			nodes = append(nodes, name)
		}
	}
	some := func(l []string) []string {
		p.Shuffle(len(l), func(i, j int) { l[i], l[j] = l[j], l[i] })
		return l[:p.Intn(min(3, len(l))+1)]
	}
	for _, name := range some(slices.Concat(nodes, m.lits)) {
		d.Paints = append(d.Paints, api.PaintDef{Name: name, Class: pick(p.Rand, "", "x", "y")})
	}
	d.Folds = append(d.Folds, some(nodes)...)
	fields := m.texts(api.GField)
	for _, name := range some(nodes) {
		if len(fields) > 0 {
			d.Marks = append(d.Marks, api.MarkDef{Name: name, Field: pick(p.Rand, fields...)})
		}
	}
	for _, name := range some(nodes) {
		d.Injects = append(d.Injects, api.InjectDef{Name: name, Lang: pick(p.Rand, "x", "y")})
	}
}

// hollowed: a definition of rules that become nothing by several of the next ones, some of them beside a token.
func hollowed(r *rand.Rand) api.Defn {
	d := api.Defn{Name: "l"}
	n := 2 + r.Intn(8)
	for i := range n {
		name := func(k int) string { return "r" + strconv.Itoa(min(k, n-1)) }
		e := leaf(api.GEmpty, "")
		if i < n-1 {
			e = leaf(api.GName, name(i+1))
			for range r.Intn(4) {
				e = two(pick(r, api.GSeq, api.GSeq, api.GSeq, api.GAlt), e, leaf(api.GName, name(i+1+r.Intn(3))))
			}
		}
		switch r.Intn(8) {
		case 0:
			e = one(pick(r, api.GStar, api.GPlus, api.GOpt), "", e)
		case 1:
			e = two(api.GSeq, e, leaf(api.GLit, "x"))
		case 2:
			e = two(api.GAlt, e, leaf(api.GName, name(r.Intn(n))))
		}
		d.Rules = append(d.Rules, api.RuleDef{Name: name(i), Expr: e})
	}
	r.Shuffle(n-1, func(i, j int) { d.Rules[i+1], d.Rules[j+1] = d.Rules[j+1], d.Rules[i+1] })
	return d
}

// oddName: one that may or may not be somebody's.
func (p *pool) oddName() string {
	return pick(p.Rand, slices.Concat(p.tokens, p.rules, p.called, p.fields, p.modes, p.flags, []string{"nobody", "_nobody"})...)
}

// spoilt: the definition with something that may be amiss in one place; lists are changed in place.
func (p *pool) spoilt(d api.Defn) api.Defn {
	switch p.Intn(9) {
	case 0:
		if len(d.Modes) > 0 {
			d.Modes[p.Intn(len(d.Modes))].Name = p.oddName()
		}
	case 1:
		if len(d.Flags) > 0 {
			d.Flags = slices.Clone(d.Flags)
			d.Flags[p.Intn(len(d.Flags))] = p.oddName()
		}
	case 2, 3:
		if len(d.Scans) > 0 {
			p.spoilScan(&d.Scans[p.Intn(len(d.Scans))])
		}
	case 4:
		d.Rules[p.Intn(len(d.Rules))].Name = p.oddName()
	case 5, 6:
		t := d.Rules[p.Intn(len(d.Rules))].Expr
		n := &t[p.Intn(len(t))]
		switch n.Op {
		case api.GName, api.GAs, api.GField:
			n.Text = p.oddName()
		case api.GLit:
			n.Text = pick(p.Rand, "", strings.Repeat("l", 17), "+")
		}
	case 7:
		d.Rules[p.Intn(len(d.Rules))].Expr = p.expr(p.Intn(6))
	case 8:
		p.spoilLines(&d)
	}
	return d
}

func (p *pool) spoilScan(s *api.ScanDef) {
	switch p.Intn(7) {
	case 0:
		s.In = append(s.In, p.oddName())
	case 1:
		s.In = append(s.In, s.In...)
	case 2:
		s.Pat, s.Lit = api.PatRegex, ""
		s.Re, _, _ = regex.Parse(pick(p.Rand, "a*", "()", "a?b?", "(a|b*)+", "a+"))
	case 3:
		s.Pat, s.Re, s.Lit = api.PatLit, nil, pick(p.Rand, "", strings.Repeat("k", 17))
	case 4:
		s.Term = pick(p.Rand, "", p.oddName())
	case 5:
		s.Tests = append(s.Tests, api.TestDef{Kind: pick(p.Rand, api.TestFlag, api.TestNoFlag), Name: p.oddName()})
	case 6:
		s.Acts = append(s.Acts, api.ActDef{Kind: pick(p.Rand, api.ActEnter, api.ActSet, api.ActClear), Name: p.oddName()})
	}
	if s.Term == "" && p.Intn(4) == 0 {
		s.Pat, s.Re, s.Lit = api.PatEmpty, nil, ""
	}
}

func (p *pool) spoilLines(d *api.Defn) {
	switch p.Intn(8) {
	case 0:
		d.Paints = append(d.Paints, api.PaintDef{Name: pick(p.Rand, p.oddName(), "+", "_x", "-", "")})
	case 1:
		d.Folds = append(d.Folds, p.oddName())
	case 2:
		d.Marks = append(d.Marks, api.MarkDef{Name: p.oddName(), Field: pick(p.Rand, pick(p.Rand, p.fields...), p.oddName())})
	case 3:
		d.Injects = append(d.Injects, api.InjectDef{Name: p.oddName(), Lang: "x"})
	case 4:
		d.Paints = again(p, d.Paints)
	case 5:
		d.Folds = again(p, d.Folds)
	case 6:
		d.Marks = again(p, d.Marks)
	case 7:
		d.Injects = again(p, d.Injects)
	}
}

// again: the lines with one of them twice.
func again[T any](p *pool, l []T) []T {
	if len(l) == 0 {
		return l
	}
	return slices.Insert(slices.Clone(l), p.Intn(len(l)+1), pick(p.Rand, l...))
}
