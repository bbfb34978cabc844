package query

import "trellis/api"

// writer: the nodes that are left to write, and the words of what has been written.
type writer struct {
	left []api.PatNode
	out  []api.Word
}

func sign(text string) api.Word { return api.Word{Kind: api.WordSign, Text: text} }

func name(text string) api.Word { return api.Word{Kind: api.WordName, Text: text} }

func quote(text string) api.Word { return api.Word{Kind: api.WordString, Text: text} }

func (w *writer) put(l ...api.Word) { w.out = append(w.out, l...) }

// pattern: the next node, with its children.
func (w *writer) pattern() {
	n := w.left[0]
	w.left = w.left[1:]
	if n.Field != "" {
		w.put(name(n.Field), sign(":"))
	}
	if n.Lit {
		w.put(quote(n.Name))
	} else {
		w.bracket(n)
	}
	if n.Capture != "" {
		w.put(sign("@"), name(n.Capture))
	}
}

func (w *writer) bracket(n api.PatNode) {
	called := n.Name
	if called == "" {
		called = anyNode
	}
	w.put(sign("("), name(called))
	for range n.Kids {
		w.pattern()
	}
	w.put(sign(")"))
}

func (w *writer) cond(c api.Cond) {
	first := "when"
	if c.Not {
		first = "unless"
	}
	w.put(name(first), sign("@"), name(c.A), sign("="))
	if c.B == "" {
		w.put(quote(c.Text))
	} else {
		w.put(sign("@"), name(c.B))
	}
}
