package paint

import (
	"math"

	"trellis/api"
)

// area: the bytes from 0 on that a node and all nodes above it cover (none, if from is not below to), and the class that it gives them.
type area struct {
	from, to int
	class    string
}

// opened: a node of whose children some may not have been met.
type opened struct {
	area
	left int // how many; it never comes to 0 if it is below, so such a node stays open
}

// areasOf: the areas of all nodes, each behind those of its children; false: the nodes are no forest.
//
// In this order the first area that has a byte is that of the last node on its path: the byte is in no area below that node, nor in one of a node that stands beside a node of the path ahead of it, or below such a one; all other areas come later.
func areasOf(paints []api.PaintDef, t []api.Node) ([]area, bool) {
	lines := byName(paints)
	var out []area
	open := []opened{{area{to: math.MaxInt}, 0}} // the first one is no node: the roots stand below it
	for _, n := range t {
		above := &open[len(open)-1]
		above.left--
		own := above.below(n)
		if line, ok := lines[n.Name]; ok {
			own.class = paints[line].Class
		}
		open = append(open, opened{own, n.Kids})
		for last := len(open) - 1; last > 0 && open[last].left == 0; last-- {
			out = append(out, open[last].area)
			open = open[:last]
		}
	}
	return out, len(open) == 1
}

// below: the area of a child that no paint line names.
func (a area) below(n api.Node) area {
	return area{max(a.from, n.From), min(a.to, n.To), a.class}
}
