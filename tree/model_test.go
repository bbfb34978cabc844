package tree_test

import (
	"fmt"
	"math"
	"math/rand"
	"slices"
	"strings"

	"trellis/api"
)

// The chapter's words, told plainly: lists of nodes are made into bushes, in which each node has its children, and back.

type bush struct {
	node api.Node // its Kids do not count
	at   int      // its place in the list that it was made of
	kids []bush
}

// plainSubtree: the subtree at a place, and what is left of the list behind it.
func plainSubtree(t []api.Node, at int) (bush, int, bool) {
	if at >= len(t) || t[at].Kids < 0 {
		return bush{}, 0, false
	}
	out, next := bush{node: t[at], at: at}, at+1
	for range t[at].Kids {
		kid, behind, ok := plainSubtree(t, next)
		if !ok {
			return bush{}, 0, false
		}
		out.kids, next = append(out.kids, kid), behind
	}
	return out, next, true
}

// bushes: the subtrees of a forest; false if it is none.
func bushes(t []api.Node) ([]bush, bool) {
	var out []bush
	for at := 0; at < len(t); {
		b, next, ok := plainSubtree(t, at)
		if !ok {
			return nil, false
		}
		out, at = append(out, b), next
	}
	return out, true
}

// listed: the nodes of bushes, each ahead of its children.
func listed(l []bush) []api.Node {
	var out []api.Node
	for _, b := range l {
		b.node.Kids = len(b.kids)
		out = append(append(out, b.node), listed(b.kids)...)
	}
	return out
}

// each calls for each bush, with the one that it stands in (nil: none).
func each(l []bush, in *bush, call func(b, in *bush)) {
	for i := range l {
		call(&l[i], in)
		each(l[i].kids, &l[i], call)
	}
}

// plainWays: by node its subtree's size, its children and its parent.
type plainWay struct {
	size   int
	kids   []int
	parent int
}

func plainWays(l []bush) []plainWay {
	var out []plainWay
	each(l, nil, func(b, in *bush) {
		w := plainWay{size: len(listed([]bush{*b})), parent: -1}
		for _, k := range b.kids {
			w.kids = append(w.kids, k.at)
		}
		if in != nil {
			w.parent = in.at
		}
		out = append(out, w)
	})
	return out
}

func plainPath(l []bush, at int) []int {
	for _, b := range l {
		if b.node.From <= at && b.node.To > at {
			return append([]int{b.at}, plainPath(b.kids, at)...)
		}
	}
	return nil
}

func plainQuoted(s string) string {
	var out strings.Builder
	for _, b := range []byte(s) {
		switch {
		case b == '"':
			out.WriteString(`\"`)
		case b == '\\':
			out.WriteString(`\\`)
		case b == 10:
			out.WriteString(`\n`)
		case b < 32 || b > 126:
			fmt.Fprintf(&out, `\x%02x`, b)
		default:
			out.WriteByte(b)
		}
	}
	return `"` + out.String() + `"`
}

func plainText(l []bush) string {
	var texts []string
	for _, b := range l {
		name := b.node.Name
		if !b.node.Named {
			name = plainQuoted(name)
		}
		if b.node.Named || len(b.kids) > 0 {
			if len(b.kids) > 0 {
				name += " "
			}
			name = "(" + name + plainText(b.kids) + ")"
		}
		if b.node.Field != "" {
			name = b.node.Field + ": " + name
		}
		texts = append(texts, name)
	}
	return strings.Join(texts, " ")
}

// What a symbol is, by its number.
const (
	aToken  = iota // a token that is not hidden
	aSecret        // a token that is
	aShown         // a Sym of the kind SymShown
	another
)

func kindOf(g api.Gram, sym int) int {
	for n, t := range g.Terms {
		if n == sym && !t.Lit && t.Name != "" && t.Name[0] == '_' {
			return aSecret
		} else if n == sym {
			return aToken
		}
	}
	for n, s := range g.Syms {
		if len(g.Terms)+n == sym && s.Kind == api.SymShown {
			return aShown
		}
	}
	return another
}

// under: one bush of which these are the children.
func under(name string, l []bush, end int) []bush {
	b := bush{node: api.Node{Name: name, Named: true, From: end, To: end, Leaf: -1}, kids: l}
	if len(l) > 0 {
		b.node.From, b.node.To = l[0].node.From, l[len(l)-1].node.To
	}
	return []bush{b}
}

// renamed: the bushes called so, if that is a name.
func renamed(l []bush, as string) []bush {
	out := slices.Clone(l)
	for i := range out {
		if as != "" {
			out[i].node.Name, out[i].node.Named = as, true
		}
	}
	return out
}

func fielded(l []bush, field string) []bush {
	out := slices.Clone(l)
	for i := range out {
		if out[i].node.Field == "" {
			out[i].node.Field = field
		}
	}
	return out
}

// plainReduce: the points of 15.3, one behind the other.
func plainReduce(g api.Gram, prod int, kids [][]api.Node, ends []int) []api.Node {
	if prod < 0 || prod >= len(g.Prods) || len(kids) != len(g.Prods[prod].Rhs) || len(ends) != len(kids)+1 {
		return nil
	}
	p := g.Prods[prod]
	var all []bush
	for i, r := range p.Rhs {
		l, ok := bushes(kids[i])
		if !ok {
			return nil
		}
		switch kind := kindOf(g, r.Sym); {
		case kind == aSecret && r.As == "":
			l = nil
		case kind != another:
			l = renamed(l, r.As)
		case r.As != "":
			l = under(r.As, l, ends[i+1])
		}
		all = append(all, fielded(l, r.Field)...)
	}
	for i, s := range g.Syms {
		if p.Lhs == i && s.Kind == api.SymShown {
			all = under(s.Name, all, ends[len(kids)])
		}
	}
	return listed(all)
}

// Things of all kinds.

func pick[T any](r *rand.Rand, l ...T) T { return l[r.Intn(len(l))] }

func anyNumber(r *rand.Rand) int {
	return pick(r, r.Intn(8), r.Intn(8), r.Intn(8), -1, -r.Intn(9), math.MaxInt, math.MinInt)
}

func anyName(r *rand.Rand) string {
	return pick(r, "", "a", "NAME", "_b", "=", "\"", "\\", "a\n\t~", "\x00\x1f\x7f\xff", "é", "( :")
}

// anyNode: one whose names and places may be anything.
func anyNode(r *rand.Rand) api.Node {
	return api.Node{Name: anyName(r), Named: r.Intn(2) == 0, Field: pick(r, "", "", "f", "\n"), From: anyNumber(r), To: anyNumber(r), Leaf: anyNumber(r)}
}

// anyForest: one of n nodes.
func anyForest(r *rand.Rand, n int) []api.Node {
	var l []bush
	deep := r.Intn(4)
	for range n {
		b := bush{node: anyNode(r)}
		if len(l) > 0 && r.Intn(4) > 0 {
			k := len(l) - 1 - r.Intn(min(len(l), 1+deep))
			b.kids, l = slices.Clone(l[k:]), l[:k]
		}
		l = append(l, b)
	}
	return listed(l)
}

// anyList: a forest, or what is nearly one, or a list whose Kids may be anything.
func anyList(r *rand.Rand, n int) []api.Node {
	t := anyForest(r, n)
	switch r.Intn(4) {
	case 0:
		for i := range t {
			t[i].Kids = pick(r, 0, 0, 1, 2)
		}
	case 1:
		if n > 0 {
			t[r.Intn(n)].Kids += pick(r, 1, -1, 2)
		}
	case 2:
		if n > 0 {
			t[r.Intn(n)].Kids = pick(r, -1, n, math.MaxInt, math.MinInt, 1<<62)
		}
	}
	return t
}

func anyRef(r *rand.Rand, g api.Gram) api.Ref {
	all := len(g.Terms) + len(g.Syms)
	sym := pick(r, r.Intn(all+1), r.Intn(all+1), r.Intn(all+1), r.Intn(all+1), all+1, -1, math.MaxInt, math.MinInt)
	return api.Ref{Sym: sym, Field: pick(r, "", "", "f", "g"), As: pick(r, "", "", "As", "_as")}
}

// anyGram: a grammar whose numbers may be anything.
func anyGram(r *rand.Rand) api.Gram {
	var g api.Gram
	for range r.Intn(5) {
		g.Terms = append(g.Terms, api.TermDef{Name: pick(r, "", "a", "_", "_b", "b_"), Lit: r.Intn(3) == 0})
	}
	for range r.Intn(5) {
		g.Syms = append(g.Syms, api.Sym{Name: pick(r, "", "s", "_t"), Kind: api.SymKind(pick(r, 1, 1, 1, 2, 3, 0, -1, 4))})
	}
	for range r.Intn(5) {
		p := api.Prod{Lhs: pick(r, r.Intn(len(g.Syms)+1), r.Intn(len(g.Syms)+1), -1, math.MaxInt, math.MinInt)}
		for range r.Intn(5) {
			p.Rhs = append(p.Rhs, anyRef(r, g))
		}
		g.Prods = append(g.Prods, p)
	}
	return g
}

// made: what Reduce is asked of a production: as many forests and ends as there should be.
func made(r *rand.Rand, g api.Gram, prod int) ([][]api.Node, []int) {
	n := r.Intn(4)
	if prod >= 0 && prod < len(g.Prods) {
		n = len(g.Prods[prod].Rhs)
	}
	var kids [][]api.Node
	ends := []int{anyNumber(r)}
	for range n {
		kids, ends = append(kids, anyForest(r, pick(r, 0, 1, 1, 5))), append(ends, anyNumber(r))
	}
	return kids, ends
}
