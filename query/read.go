package query

import "trellis/api"

// reader: the words that are left to read, and behind them one of no kind that stands at the text's end; what those ahead of them have made; and the error, if one has been come to: then the word at which it is met is the first that is left. Methods that read answer whether to go on: false behind an error.
type reader struct {
	left  []api.Word
	query api.Query
	code  api.Errno
}

func (r *reader) fail(code api.Errno) bool {
	r.code = code
	return false
}

func (r *reader) sees(kind api.WordKind, text string) bool {
	return r.left[0].Kind == kind && r.left[0].Text == text
}

// takes reads the sign if it is the next word, and tells whether it is.
func (r *reader) takes(text string) bool {
	seen := r.sees(api.WordSign, text)
	if seen {
		r.left = r.left[1:]
	}
	return seen
}

func (r *reader) must(text string) bool { return r.takes(text) || r.fail(api.ErrQuery) }

func (r *reader) all() bool {
	ok := r.pattern()
	for ok && len(r.left) > 1 {
		ok = r.cond()
	}
	return ok
}

// nameAhead: is the next word a name that a field or a capture may have?
func (r *reader) nameAhead() bool {
	return r.left[0].Kind == api.WordName && r.left[0].Text != anyNode
}

// fieldAhead: is the next word a field's name? Only the word behind it tells.
func (r *reader) fieldAhead() bool {
	return r.nameAhead() && r.left[1].Kind == api.WordSign && r.left[1].Text == ":"
}

// nodeAhead: does the next word begin what a pattern is without its field?
func (r *reader) nodeAhead() bool {
	return r.sees(api.WordSign, "(") || r.left[0].Kind == api.WordString && r.left[0].Text != ""
}

func (r *reader) pattern() bool {
	if !r.fieldAhead() && !r.nodeAhead() {
		return r.fail(api.ErrQuery)
	}
	at := len(r.query.Nodes)
	if at == api.MaxPattern {
		return r.fail(api.ErrPatterns)
	}
	r.query.Nodes = append(r.query.Nodes, api.PatNode{})
	if r.fieldAhead() {
		r.query.Nodes[at].Field = r.left[0].Text
		r.left = r.left[2:]
	}
	return r.node(at) && r.capture(at)
}

// node: what the node at a place is, without its field and capture.
func (r *reader) node(at int) bool {
	if !r.nodeAhead() {
		return r.fail(api.ErrQuery)
	}
	first := r.left[0]
	r.left = r.left[1:]
	if first.Kind == api.WordString {
		r.query.Nodes[at].Lit, r.query.Nodes[at].Name = true, first.Text
		return true
	}
	return r.name(at) && r.children(at)
}

func (r *reader) name(at int) bool {
	if r.left[0].Kind != api.WordName {
		return r.fail(api.ErrQuery)
	}
	if r.nameAhead() {
		r.query.Nodes[at].Name = r.left[0].Text
	}
	r.left = r.left[1:]
	return true
}

func (r *reader) children(at int) bool {
	for !r.takes(")") {
		if !r.pattern() {
			return false
		}
		r.query.Nodes[at].Kids++
	}
	return true
}

func (r *reader) capture(at int) bool {
	return !r.takes("@") || r.captureName(&r.query.Nodes[at].Capture, false)
}

// captureName reads a capture's name, which must be one of the pattern's already, or must not.
func (r *reader) captureName(to *string, known bool) bool {
	if !r.nameAhead() {
		return r.fail(api.ErrQuery)
	}
	text := r.left[0].Text
	if known != (captured(r.query.Nodes, text) != none) {
		return r.fail(api.ErrCapture)
	}
	*to = text
	r.left = r.left[1:]
	return true
}

func (r *reader) cond() bool {
	unless := r.sees(api.WordName, "unless")
	if !unless && !r.sees(api.WordName, "when") {
		return r.fail(api.ErrQuery)
	}
	if len(r.query.Conds) == api.MaxConds {
		return r.fail(api.ErrPatterns)
	}
	r.left = r.left[1:]
	c := api.Cond{Not: unless}
	ok := r.must("@") && r.captureName(&c.A, true) && r.must("=") && r.other(&c)
	r.query.Conds = append(r.query.Conds, c)
	return ok
}

// other: what a condition holds its first capture against.
func (r *reader) other(c *api.Cond) bool {
	if r.left[0].Kind != api.WordString {
		return r.must("@") && r.captureName(&c.B, true)
	}
	c.Text = r.left[0].Text
	r.left = r.left[1:]
	return true
}
