package defn

import (
	"trellis/api"
	"trellis/regex"
)

// What the table of lines has: each reads what stands behind a line's first word, whose place is at.

func (r *reader) mode(at int) {
	name := r.name()
	open := r.takes(api.WordName, "open")
	r.defn.Modes = append(r.defn.Modes, api.ModeDef{Name: name, Open: open})
	r.spots.Modes = append(r.spots.Modes, at)
}

func (r *reader) flag(at int) {
	r.defn.Flags = append(r.defn.Flags, r.name())
	r.spots.Flags = append(r.spots.Flags, at)
}

func (r *reader) skip(at int) { r.scan(api.ScanDef{}, at) }

func (r *reader) token(at int) { r.scan(api.ScanDef{Term: r.name()}, at) }

func (r *reader) rule(at int) {
	name := r.name()
	r.must(api.WordSign, "=")
	x := exprReader{reader: r}
	x.expr()
	r.defn.Rules = append(r.defn.Rules, api.RuleDef{Name: name, Expr: x.nodes})
	r.spots.Rules = append(r.spots.Rules, at)
	r.spots.Nodes = append(r.spots.Nodes, x.places)
}

func (r *reader) paint(at int) {
	called := r.ahead()
	if called.Kind == api.WordString {
		r.next()
	} else {
		called = r.one(api.WordName)
	}
	class := r.one(api.WordString)
	r.defn.Paints = append(r.defn.Paints, api.PaintDef{Name: called.Text, Class: class.Text})
	r.spots.Paints = append(r.spots.Paints, at)
}

func (r *reader) fold(at int) {
	r.defn.Folds = append(r.defn.Folds, r.name())
	r.spots.Folds = append(r.spots.Folds, at)
}

func (r *reader) mark(at int) {
	name := r.name()
	field := r.name()
	r.defn.Marks = append(r.defn.Marks, api.MarkDef{Name: name, Field: field})
	r.spots.Marks = append(r.spots.Marks, at)
}

func (r *reader) inject(at int) {
	name := r.name()
	lang := r.name()
	r.defn.Injects = append(r.defn.Injects, api.InjectDef{Name: name, Lang: lang})
	r.spots.Injects = append(r.spots.Injects, at)
}

// scan: the pattern and the clauses of a scanning definition that has its token already.
func (r *reader) scan(s api.ScanDef, at int) {
	r.pattern(&s)
	if r.takes(api.WordName, "in") {
		s.In = list(r, (*reader).name)
	}
	if r.takes(api.WordName, "when") {
		s.Tests = list(r, (*reader).test)
	}
	if r.takes(api.WordName, "do") {
		s.Acts = list(r, (*reader).act)
	}
	r.defn.Scans = append(r.defn.Scans, s)
	r.spots.Scans = append(r.spots.Scans, at)
}

func (r *reader) pattern(s *api.ScanDef) {
	switch r.ahead().Kind {
	case api.WordRegex:
		s.Pat, s.Re = api.PatRegex, r.regex()
	case api.WordString:
		s.Pat, s.Lit = api.PatLit, r.next().Text
	default:
		s.Pat = api.PatEmpty + api.PatKind(r.choice(patternWords))
	}
}

func (r *reader) regex() []api.ReNode {
	w := r.next()
	re, code, at := regex.Parse(w.Text)
	if code != api.OK {
		r.fail(code, w.At+1+at)
	}
	return re
}

// list: what is read once, and once more behind each comma.
func list[T any](r *reader, read func(*reader) T) []T {
	out := []T{read(r)}
	for r.takes(api.WordSign, ",") {
		out = append(out, read(r))
	}
	return out
}

func (r *reader) test() api.TestDef {
	t := api.TestDef{Kind: api.TestKind(r.choice(testWords) + 1)}
	if testNamed(t.Kind) {
		t.Name = r.name()
	}
	return t
}

func (r *reader) act() api.ActDef {
	a := api.ActDef{Kind: api.ActKind(r.choice(actWords) + 1)}
	if actNamed(a.Kind) {
		a.Name = r.name()
	}
	switch {
	case a.Kind == api.ActEnqueue:
		a.N = r.one(api.WordNumber).N
	case a.Kind == api.ActEnter && r.ahead().Kind == api.WordNumber:
		a.N = r.next().N
	case a.Kind == api.ActEnter:
		a.N = -1
	}
	return a
}
