package regex

import (
	"iter"
	"math/bits"

	"trellis/api"
)

// places: a set of nodes, by their places in the tree.
type places [(api.MaxRegex + 63) / 64]uint64

func only(i int) places {
	var p places
	p[i/64] = 1 << (i % 64)
	return p
}

// add puts the places of q into p.
func (p *places) add(q *places) {
	for i, w := range q {
		p[i] |= w
	}
}

// both: the places that are in p and in q.
func (p places) both(q places) places {
	for i, w := range q {
		p[i] &= w
	}
	return p
}

func (p places) all() iter.Seq[int] {
	return func(yield func(int) bool) {
		for i, w := range p {
			for ; w != 0; w &= w - 1 {
				if !yield(i*64 + bits.TrailingZeros64(w)) {
					return
				}
			}
		}
	}
}

// part: whether a node matches nothing; which classes in it may take the first byte of what it matches, which the last.
type part struct {
	null        bool
	first, last places
}

// ways: how a match goes from class to class. The classes that may take the next byte are one set, however many ways lead to each: so a byte costs no more than a look at each of them.
type ways struct {
	parts  [api.MaxRegex]part
	behind [api.MaxRegex]places // by class: those that may take the byte behind its own
}

// survey tells the ways of a well shaped tree.
func survey(re []api.ReNode) *ways {
	w := &ways{}
	for i, n := range re {
		switch n.Op {
		case api.ReClass:
			w.parts[i] = part{first: only(i), last: only(i)}
		case api.ReEmpty:
			w.parts[i] = part{null: true}
		case api.ReCat:
			w.parts[i] = w.row(w.parts[n.A], w.parts[n.B])
		case api.ReAlt:
			w.parts[i] = either(w.parts[n.A], w.parts[n.B])
		default:
			w.parts[i] = w.again(w.parts[n.A], n.Op)
		}
	}
	return w
}

func either(a, b part) part {
	a.null = a.null || b.null
	a.first.add(&b.first)
	a.last.add(&b.last)
	return a
}

// row: a, and behind it b.
func (w *ways) row(a, b part) part {
	w.link(a.last, b.first)
	if a.null {
		a.first.add(&b.first)
	}
	if b.null {
		b.last.add(&a.last)
	}
	return part{a.null && b.null, a.first, b.last}
}

// again: a under a star, a plus or a question mark.
func (w *ways) again(a part, op api.ReOp) part {
	if op != api.ReOpt {
		w.link(a.last, a.first)
	}
	if op != api.RePlus {
		a.null = true
	}
	return a
}

// link: behind each class of last each of first may stand.
func (w *ways) link(last, first places) {
	for i := range last.all() {
		w.behind[i].add(&first)
	}
}

// read: does the tree match s; which of its classes may take a byte behind s? A match can be brought to its end from each class, since none is without a byte.
func read(re []api.ReNode, s string) (whole bool, next places) {
	if !Shaped(re) {
		return false, places{}
	}
	w := survey(re)
	root := w.parts[len(re)-1]
	whole, next = root.null, root.first
	for i := range len(s) {
		var took, further places
		for at := range next.all() {
			if re[at].Set.Has(s[i]) {
				took[at/64] |= 1 << (at % 64)
				further.add(&w.behind[at])
			}
		}
		if took == (places{}) {
			return false, places{}
		}
		whole, next = took.both(root.last) != places{}, further
	}
	return whole, next
}
