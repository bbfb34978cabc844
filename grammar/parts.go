package grammar

import "trellis/api"

// part: a part of an expression, whatever its kind.
type part interface {
	// lay lays the part's row behind the one that is there, its Refs marked so where they are not marked otherwise.
	lay(r *row, m mark)
}

// owner: a part that needs a symbol of its own.
type owner interface {
	part
	// becomes: the symbol's productions, each as the parts whose rows stand side by side in it.
	becomes() [][]part
}

// mark: what is said of a Ref beside its symbol.
type mark struct {
	field, as string
}

// row: Refs that have been laid, and what is still to be laid behind them, the next one last. So no depth of an expression is one of calls.
type row struct {
	refs []api.Ref
	left []marked
}

type marked struct {
	part part
	mark mark
}

func (r *row) put(p part, m mark) { r.left = append(r.left, marked{p, m}) }

// rowOf: the row of parts that stand side by side.
func rowOf(parts []part) []api.Ref {
	var r row
	for i := len(parts) - 1; i >= 0; i-- {
		r.put(parts[i], mark{})
	}
	for len(r.left) > 0 {
		last := len(r.left) - 1
		next := r.left[last]
		r.left = r.left[:last]
		next.part.lay(&r, next.mark)
	}
	return r.refs
}

// symbol: one Ref; of a token, of a rule, or of the part that has it for itself.
type symbol struct{ number int }

func (s symbol) lay(r *row, m mark) {
	r.refs = append(r.refs, api.Ref{Sym: s.number, Field: m.field, As: m.as})
}

type nothing struct{}

func (nothing) lay(*row, mark) {}

type pair struct{ a, b part }

func (p pair) lay(r *row, m mark) {
	r.put(p.b, m)
	r.put(p.a, m)
}

type field struct {
	name string
	of   part
}

func (f field) lay(r *row, m mark) {
	m.field = f.name
	r.put(f.of, m)
}

type called struct {
	name string
	of   part
}

func (c called) lay(r *row, m mark) {
	m.as = c.name
	r.put(c.of, m)
}

type star struct {
	symbol
	of part
}

func (s star) becomes() [][]part { return [][]part{{}, {s.symbol, s.of}} }

type plus struct {
	symbol
	of part
}

func (p plus) becomes() [][]part { return [][]part{{p.of}, {p.symbol, p.of}} }

type option struct {
	symbol
	of part
}

func (o option) becomes() [][]part { return [][]part{{}, {o.of}} }

// choice: alternatives with a symbol; those of a rule's root have the rule's.
type choice struct {
	symbol
	among []part
}

func (c choice) becomes() [][]part {
	var out [][]part
	for _, p := range c.among {
		out = append(out, []part{p})
	}
	return out
}
