package load_test

import (
	"maps"
	"reflect"
	"slices"

	"trellis/api"
	"trellis/defn"
	"trellis/grammar"
	"trellis/items"
)

// The chapter's words, told plainly. Package table is not asked: actions are read out of the sets, one by one; nor are productions asked to which rule a symbol belongs: the nodes of the expressions are counted.

// plainActions: all that are unlike, of a state and a token.
func plainActions(g api.Gram, set []api.Item, to []int, token int) []api.Action {
	var out []api.Action
	if to[token] != -1 {
		out = append(out, api.Action{Kind: api.ActionShift, N: to[token]})
	}
	for _, x := range set {
		if x.Look != token || x.Dot != len(g.Prods[x.Prod].Rhs) {
			continue
		}
		a := api.Action{Kind: api.ActionReduce, N: x.Prod}
		if x.Prod == 0 {
			a = api.Action{Kind: api.ActionAccept}
		}
		if !slices.Contains(out, a) {
			out = append(out, a)
		}
	}
	return out
}

// plainOwners: by Sym the place of the rule to which it belongs.
func plainOwners(d api.Defn) []int {
	var rules, aux []int
	for i, r := range d.Rules {
		rules = append(rules, i)
		below := map[int]bool{len(r.Expr) - 1: true} // the root, and the operands of a GAlt
		for _, n := range r.Expr {
			if n.Op == api.GAlt {
				below[n.A], below[n.B] = true, true
			}
		}
		for at, n := range r.Expr {
			switch n.Op {
			case api.GStar, api.GPlus, api.GOpt:
				aux = append(aux, i)
			case api.GAlt:
				if !below[at] {
					aux = append(aux, i)
				}
			}
		}
	}
	return append(rules, aux...)
}

// plainBlame: the place in the text of the rule of the least of all productions that have a part.
func plainBlame(d api.Defn, sp api.Spots, g api.Gram, set []api.Item, token int) int {
	least := len(g.Prods)
	for _, x := range set {
		row := g.Prods[x.Prod].Rhs
		ended := x.Dot == len(row) && x.Look == token
		ahead := x.Dot < len(row) && row[x.Dot].Sym == token
		if ended || ahead {
			least = min(least, x.Prod)
		}
	}
	if least == 0 {
		return sp.Rules[0]
	}
	return sp.Rules[plainOwners(d)[g.Prods[least].Lhs]]
}

// plainLoad: the rows of the chapter's table, one behind the other.
func plainLoad(text string) (api.Lang, api.Fault) {
	refuse := func(code api.Errno, at int) (api.Lang, api.Fault) {
		return api.Lang{}, api.Fault{Code: code, At: at}
	}
	d, sp, code, at := defn.Parse(text)
	if code != api.OK {
		return refuse(code, at)
	}
	if f := grammar.Check(d); f.Code == api.ErrNoRule {
		return refuse(f.Code, 0)
	} else if f.Code != api.OK {
		return refuse(f.Code, grammar.Place(sp, f))
	}
	g, rules, _ := grammar.Build(d)
	sets, gotos, code := items.Sets(g)
	if code != api.OK {
		return refuse(code, sp.Rules[0])
	}
	var t api.Table
	for i, set := range sets {
		var row []api.Action
		for token := range g.Terms {
			l := plainActions(g, set, gotos[i], token)
			if len(l) > 1 {
				return refuse(api.ErrConflict, plainBlame(d, sp, g, set, token))
			}
			row = append(row, append(l, api.Action{})[0])
		}
		t.Actions, t.Gotos = append(t.Actions, row), append(t.Gotos, gotos[i][len(g.Terms):])
	}
	return api.Lang{Name: d.Name, Modes: d.Modes, Gram: g, Rules: rules, Table: t, Paints: d.Paints, Folds: d.Folds, Marks: d.Marks, Injects: d.Injects}, api.Fault{}
}

// alike: the same, with nil and empty lists alike.
func alike(a, b any) bool { return alikeValues(reflect.ValueOf(a), reflect.ValueOf(b)) }

func alikeValues(a, b reflect.Value) bool {
	switch a.Kind() {
	case reflect.Slice:
		if a.Len() != b.Len() {
			return false
		}
		for i := range a.Len() {
			if !alikeValues(a.Index(i), b.Index(i)) {
				return false
			}
		}
		return true
	case reflect.Struct:
		for i := range a.NumField() {
			if !alikeValues(a.Field(i), b.Field(i)) {
				return false
			}
		}
		return true
	}
	return a.Equal(b)
}

// ways: rows of tokens, a byte each, and in how many ways each of them comes about: 2 stands for two or more.
type ways map[string]int

// longest: rows of more tokens are not looked at.
const longest = 4

// then: the rows of a, each with one of b behind it.
func (a ways) then(b ways) ways {
	out := ways{}
	for x, m := range a {
		for y, n := range b {
			if len(x)+len(y) <= longest {
				out[x+y] = min(2, out[x+y]+m*n)
			}
		}
	}
	return out
}

// or: the rows of both.
func (a ways) or(b ways) ways {
	out := maps.Clone(a)
	for x, n := range b {
		out[x] = min(2, out[x]+n)
	}
	return out
}

// sentences: those of the grammar, counted by its productions until nothing changes. No set of items is asked.
func sentences(g api.Gram) ways {
	known := make([]ways, len(g.Syms))
	for {
		next := make([]ways, len(g.Syms))
		for i := range next {
			next[i] = ways{}
		}
		for _, p := range g.Prods[1:] {
			row := ways{"": 1}
			for _, r := range p.Rhs {
				if r.Sym < len(g.Terms) {
					row = row.then(ways{string([]byte{byte(r.Sym)}): 1})
				} else {
					row = row.then(known[r.Sym-len(g.Terms)])
				}
			}
			next[p.Lhs] = next[p.Lhs].or(row)
		}
		if slices.EqualFunc(known, next, func(a, b ways) bool { return maps.Equal(a, b) }) {
			return known[0]
		}
		known = next
	}
}
