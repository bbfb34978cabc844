package tree

import "trellis/api"

// spot: where somebody stands.
type spot struct {
	at int // none: nowhere
}

// move: to a place, if it is one.
func (s *spot) move(to int) bool {
	if to == none {
		return false
	}
	s.at = to
	return true
}

// Cursor walks over a tree. It keeps how the nodes are tied together, not the nodes.
type Cursor struct {
	knots
	spot
}

// Walk: a cursor at the first root.
func Walk(t []api.Node) *Cursor {
	l := tied(t)
	return &Cursor{l, spot{l.root()}}
}

// Place: the node at which it stands (-1: there is none).
func (c *Cursor) Place() int { return c.at }

// Down: to the first child; false: there is none.
func (c *Cursor) Down() bool { return c.move(c.below(c.at)) }

// Next: to the node behind it that has the same parent; false: there is none.
func (c *Cursor) Next() bool { return c.move(c.beside(c.at)) }

// Up: to the parent; false: there is none.
func (c *Cursor) Up() bool { return c.move(c.above(c.at)) }
