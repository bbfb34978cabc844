package grammar

import (
	"strings"

	"trellis/api"
)

// roll: texts, each once, numbered from 0 on in the order in which they came up.
type roll struct {
	texts   []string
	numbers map[string]int
}

func newRoll() *roll { return &roll{numbers: map[string]int{}} }

// take puts a text behind the others, and tells whether it is new.
func (r *roll) take(text string) bool {
	if r.has(text) {
		return false
	}
	r.numbers[text] = len(r.texts)
	r.texts = append(r.texts, text)
	return true
}

func (r *roll) has(text string) bool {
	_, ok := r.numbers[text]
	return ok
}

// names: what there is in a definition to be named.
type names struct {
	tokens *roll
	rules  *roll
	lits   *roll
	used   *roll // the names that stand in the rules' expressions
	called *roll // what a node may be called
	fields *roll
}

func namesOf(d api.Defn) names {
	n := names{newRoll(), newRoll(), newRoll(), newRoll(), newRoll(), newRoll()}
	for _, s := range d.Scans {
		if s.Term != "" {
			n.tokens.take(s.Term)
			n.show(s.Term)
		}
	}
	for _, r := range d.Rules {
		n.rules.take(r.Name)
		n.show(r.Name)
		for _, node := range r.Expr {
			n.node(node)
		}
	}
	return n
}

// show: a node may be called by the name of a token or a rule that is not hidden.
func (n names) show(name string) {
	if !hidden(name) {
		n.called.take(name)
	}
}

func hidden(name string) bool { return strings.HasPrefix(name, "_") }

func (n names) node(node api.GNode) {
	switch node.Op {
	case api.GName:
		n.used.take(node.Text)
	case api.GLit:
		n.lits.take(node.Text)
	case api.GAs:
		n.called.take(node.Text)
	case api.GField:
		n.fields.take(node.Text)
	}
}

// terms: how many tokens there are, the end counted.
func (n names) terms() int { return 1 + len(n.lits.texts) + len(n.tokens.texts) }

func (n names) litTerm(text string) int { return 1 + n.lits.numbers[text] }

func (n names) tokenTerm(name string) int { return 1 + len(n.lits.texts) + n.tokens.numbers[name] }

// symbol: the number of the token or the rule that has the name.
func (n names) symbol(name string) int {
	if n.tokens.has(name) {
		return n.tokenTerm(name)
	}
	return n.terms() + n.rules.numbers[name]
}
