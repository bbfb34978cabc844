package defn

import (
	"strings"

	"trellis/api"
)

// exprReader reads one expression: its nodes so far, where each of them stands, and how many brackets are open. Its methods answer the place of the node that they have made last, the root of what they have read.
type exprReader struct {
	*reader
	nodes  []api.GNode
	places []int
	open   int
}

func (x *exprReader) add(n api.GNode, at int) int {
	x.nodes = append(x.nodes, n)
	x.places = append(x.places, at)
	return len(x.nodes) - 1
}

func (x *exprReader) expr() int {
	a := x.row()
	for x.sees(api.WordSign, "|") {
		bar := x.next().At
		b := x.row()
		a = x.add(api.GNode{Op: api.GAlt, A: a, B: b}, bar)
	}
	return a
}

func (x *exprReader) row() int {
	a := x.many()
	for x.partAhead() {
		b := x.many()
		a = x.add(api.GNode{Op: api.GSeq, A: a, B: b}, x.places[a])
	}
	return a
}

// partAhead: does the next word begin a part?
func (x *exprReader) partAhead() bool {
	kind := x.ahead().Kind
	return kind == api.WordName || kind == api.WordString || x.sees(api.WordSign, "(")
}

func (x *exprReader) many() int {
	a := x.part()
	for x.repeatAhead() {
		w := x.next()
		op := api.GStar + api.GOp(strings.Index(repeatSigns, w.Text))
		a = x.add(api.GNode{Op: op, A: a, B: -1}, w.At)
	}
	return a
}

func (x *exprReader) repeatAhead() bool {
	w := x.ahead()
	return w.Kind == api.WordSign && strings.Contains(repeatSigns, w.Text)
}

func (x *exprReader) part() int {
	if !x.fieldAhead() {
		return x.atom()
	}
	field := x.next()
	x.next()
	a := x.atom()
	return x.add(api.GNode{Op: api.GField, Text: field.Text, A: a, B: -1}, field.At)
}

// fieldAhead: is the next word a field's name? Only the word behind it tells.
func (x *exprReader) fieldAhead() bool {
	if x.ahead().Kind != api.WordName || len(x.left) < 2 {
		return false
	}
	w := x.left[1]
	return w.Kind == api.WordSign && w.Text == ":"
}

func (x *exprReader) atom() int {
	switch w := x.ahead(); {
	case w.Kind == api.WordName:
		return x.leaf(api.GName)
	case w.Kind == api.WordString:
		return x.leaf(api.GLit)
	case x.sees(api.WordSign, "("):
		return x.bracket()
	}
	x.refuse()
	return -1
}

// leaf: a name or a string, and what it is called instead.
func (x *exprReader) leaf(op api.GOp) int {
	w := x.next()
	a := x.add(api.GNode{Op: op, Text: w.Text, A: -1, B: -1}, w.At)
	if !x.sees(api.WordSign, "@") {
		return a
	}
	at := x.next().At
	return x.add(api.GNode{Op: api.GAs, Text: x.name(), A: a, B: -1}, at)
}

func (x *exprReader) bracket() int {
	at := x.next().At
	if x.open == api.MaxNest {
		x.fail(api.ErrDeep, at)
		return -1
	}
	if x.takes(api.WordSign, ")") {
		return x.add(api.GNode{Op: api.GEmpty, A: -1, B: -1}, at)
	}
	x.open++
	a := x.expr()
	x.open--
	x.must(api.WordSign, ")")
	return a
}
