package parse

import "trellis/api"

// row: nodes beside one another that have not been written yet.
type row struct {
	nodes []api.Node
	above int    // the place of their parent among those that have been
	field string // what those are given that have none
}

// grown: the nodes with all that their stubs stand for. Trees may be deep: no call waits for another one.
func (b *builder) grown(l []api.Node) []api.Node {
	var out []api.Node
	rows := []row{{nodes: l, above: none}}
	for len(rows) > 0 {
		r := &rows[len(rows)-1]
		if len(r.nodes) == 0 {
			rows = rows[:len(rows)-1]
			continue
		}
		n := r.nodes[0]
		r.nodes = r.nodes[1:]
		if n.Field == "" {
			n.Field = r.field
		}
		x, stub := b.behind(n)
		if stub && x.bundle {
			rows = append(rows, row{x.nodes, r.above, n.Field})
			continue
		}
		if r.above != none {
			out[r.above].Kids++
		}
		if stub {
			n.Leaf = none
			rows = append(rows, row{nodes: x.nodes, above: len(out)})
		}
		out = append(out, n)
	}
	return out
}
