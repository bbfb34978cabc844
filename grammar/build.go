package grammar

import (
	"strings"

	"trellis/api"
)

// joined: by node: is it the root or a GAlt's operand? A GAlt there has no symbol: its alternatives are those of the whole.
func joined(t []api.GNode) []bool {
	out := make([]bool, len(t))
	out[len(t)-1] = true
	for _, n := range t {
		if n.Op == api.GAlt {
			out[n.A], out[n.B] = true, true
		}
	}
	return out
}

// sizeOf: how many symbols and productions build makes of the rules. It is known ahead of making them, since there may be far too many.
func sizeOf(rules []api.RuleDef) (syms, prods int) {
	prods = 1
	for _, r := range rules {
		syms++
		prods++
		within := joined(r.Expr)
		for i, n := range r.Expr {
			switch {
			case n.Op == api.GAlt && within[i]:
				prods++
			case n.Op == api.GAlt, n.Op == api.GStar, n.Op == api.GPlus, n.Op == api.GOpt:
				syms++
				prods += 2
			}
		}
	}
	return syms, prods
}

// builder: the names that parts are made of, and what has been made so far.
type builder struct {
	names names
	tops  []owner // by rule
	aux   []owner
	rules []int // by aux symbol: the place of the rule of whose expression it is a part
}

// build: the grammar of a definition in which all names are known and nothing is too much; by Sym, the rule to which it belongs.
func build(d api.Defn, n names) (api.Gram, []int) {
	b := builder{names: n}
	owners := make([]int, len(d.Rules))
	for i, r := range d.Rules {
		owners[i] = i
		b.tops = append(b.tops, choice{symbol{n.terms() + i}, b.alternatives(r.Expr)})
		for len(b.rules) < len(b.aux) {
			b.rules = append(b.rules, i)
		}
	}
	g := api.Gram{Terms: termDefs(n), Syms: b.symDefs(d.Rules), Prods: b.productions()}
	return g, append(owners, b.rules...)
}

func termDefs(n names) []api.TermDef {
	out := []api.TermDef{{}}
	for _, text := range n.lits.texts {
		out = append(out, api.TermDef{Name: strings.Clone(text), Lit: true})
	}
	for _, name := range n.tokens.texts {
		out = append(out, api.TermDef{Name: strings.Clone(name)})
	}
	return out
}

func (b *builder) symDefs(rules []api.RuleDef) []api.Sym {
	var out []api.Sym
	for _, r := range rules {
		kind := api.SymShown
		if hidden(r.Name) {
			kind = api.SymHidden
		}
		out = append(out, api.Sym{Name: strings.Clone(r.Name), Kind: kind})
	}
	for range b.aux {
		out = append(out, api.Sym{Kind: api.SymAux})
	}
	return out
}

func (b *builder) productions() []api.Prod {
	out := []api.Prod{{Lhs: -1, Rhs: []api.Ref{{Sym: b.names.terms()}}}}
	for i, o := range append(b.tops, b.aux...) {
		for _, l := range o.becomes() {
			out = append(out, api.Prod{Lhs: i, Rhs: rowOf(l)})
		}
	}
	return out
}

// alternatives: those of an expression's root, as parts.
func (b *builder) alternatives(t []api.GNode) []part {
	made := make([][]part, len(t)) // by node: its alternatives
	within := joined(t)
	for i, n := range t {
		switch {
		case n.Op != api.GAlt:
			made[i] = []part{b.part(n, made)}
		case within[i]:
			made[i] = append(made[n.A], made[n.B]...)
		default:
			made[i] = []part{b.own(choice{b.next(), append(made[n.A], made[n.B]...)})}
		}
	}
	return made[len(t)-1]
}

// part: that of a node which is no GAlt. Its operands have one alternative each: they are none either, or have a symbol.
func (b *builder) part(n api.GNode, made [][]part) part {
	switch n.Op {
	case api.GName:
		return symbol{b.names.symbol(n.Text)}
	case api.GLit:
		return symbol{b.names.litTerm(n.Text)}
	case api.GSeq:
		return pair{made[n.A][0], made[n.B][0]}
	case api.GStar:
		return b.own(star{b.next(), made[n.A][0]})
	case api.GPlus:
		return b.own(plus{b.next(), made[n.A][0]})
	case api.GOpt:
		return b.own(option{b.next(), made[n.A][0]})
	case api.GField:
		return field{strings.Clone(n.Text), made[n.A][0]}
	case api.GAs:
		return called{strings.Clone(n.Text), made[n.A][0]}
	}
	return nothing{}
}

// next: the symbol that the next aux part gets.
func (b *builder) next() symbol {
	return symbol{b.names.terms() + len(b.names.rules.texts) + len(b.aux)}
}

func (b *builder) own(o owner) part {
	b.aux = append(b.aux, o)
	return o
}
