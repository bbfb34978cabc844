package ranges

import (
	"math"

	"trellis/api"
)

// none: no token's number.
const none = -1

// spot: what a byte's chain says, in numbers.
type spot struct {
	row  int // the number of the names above it
	term int
}

// walker: tells of a result's bytes, which must be asked for in their order: so all of them together are no more work than going once over its leaves and nodes.
type walker struct {
	leaves tokens
	nodes  names
}

func newWalker(r api.Result, known rows) *walker {
	bottom := cover{to: math.MaxInt}
	return &walker{tokens{left: r.Leaves}, names{left: r.Nodes, above: []cover{bottom}, known: known}}
}

func (w *walker) at(at int) spot { return spot{w.nodes.at(at), w.leaves.at(at)} }

// tokens: leaves, one behind the other.
type tokens struct {
	left     []api.Leaf // those that no byte has led to yet
	term     int        // the token of the last one that a byte has led to
	from, to int        // its bytes
}

// at: the number of the token that a byte is in, none if there is no such token.
func (l *tokens) at(at int) int {
	for l.to <= at && len(l.left) > 0 {
		l.next()
	}
	if at < l.from || at >= l.to {
		return none
	}
	return l.term
}

func (l *tokens) next() {
	f := l.left[0]
	l.left = l.left[1:]
	if !small(f.Pad) || !small(f.Len) { // no text has such a leaf, and its numbers may be too large to be added
		l.left = nil
		return
	}
	l.from = l.to + f.Pad
	l.to = l.from + f.Len
	l.term = f.Term
}

// small: may a leaf have so many bytes?
func small(n int) bool { return n >= 0 && n <= api.MaxText }

// names: nodes, each ahead of its children, and so in the order in which they begin.
type names struct {
	left  []api.Node // those that no byte has led to yet
	above []cover    // those that cover the byte asked for last, from the outermost on; the first one is none of them and never goes
	known rows
}

// cover: a node that covers a byte.
type cover struct {
	to  int // where it ends
	row int // the number of the names down to its own
}

// at: the number of the names above a byte.
func (l *names) at(at int) int {
	for l.last().to <= at {
		l.above = l.above[:len(l.above)-1]
	}
	for len(l.left) > 0 && l.left[0].From <= at {
		node := l.left[0]
		l.left = l.left[1:]
		if node.To > at {
			l.above = append(l.above, cover{node.To, l.known.below(l.last().row, node.Name)})
		}
	}
	return l.last().row
}

func (l *names) last() cover { return l.above[len(l.above)-1] }

// rows: numbers of rows of names, by the row's last name and the number of those ahead of it; 0 is that of no names. Two rows are the same just if their numbers are, so they need not be gone through, however long they are.
type rows map[link]int

type link struct {
	above int
	name  string
}

// below: the number of a row with one name more.
func (l rows) below(above int, name string) int {
	longer := link{above, name}
	number, ok := l[longer]
	if !ok {
		number = len(l) + 1
		l[longer] = number
	}
	return number
}
