package parse

import (
	"trellis/api"
	"trellis/scan"
	"trellis/state"
	"trellis/tree"
)

// parser makes a run. What it goes on with is its own: the scanner's state, the walk over the table with the tree's builder, and the result so far, in which At is where the next step begins and Want what may come there.
type parser struct {
	api.State
	walk
	api.Result
	api.Stats
	text  string
	src   Source
	bytes string // the state's
	empty int    // how many of the last leaves have no byte
}

func newParser(l api.Lang, text string, src Source) *parser {
	p := &parser{State: state.Start(), walk: newWalk(l), text: text, src: src}
	p.bytes, _ = state.Encode(p.State)
	return p
}

// move: what a step comes to: a leaf and the state behind it, or why there is none.
type move struct {
	api.Leaf
	after api.State
	code  api.Errno
	from  int // the place of the token, or of the refusal
}

// step: one step of the run; false: the run has ended with it.
func (p *parser) step() bool {
	p.Want = p.valid()
	m, found := p.asked()
	if !found {
		m = p.scanned()
	}
	code := p.refusal(m)
	if code == api.OK && !p.take(m.Term, len(p.Leaves), m.from, m.from+m.Len) {
		code = api.ErrSyntax // in no language: there the table takes what it says is valid
	}
	if code != api.OK {
		p.Code, p.At = code, m.from
		return false
	}
	if found {
		p.Kept++
	}
	p.goOn(m)
	return m.Term != theEnd
}

// asked: the step by the source's leaf; false: it has none that could stand there.
func (p *parser) asked() (move, bool) {
	f, ok := p.src.Find(p.At, p.bytes, p.Want)
	if !ok || !has(p.Want, f.Term) || !fits(f, len(p.text)-p.At) {
		return move{}, false
	}
	after, code := state.Decode(f.After)
	return move{Leaf: f, after: after, from: p.At + f.Pad}, code == api.OK
}

func has(l api.Terms, term int) bool { return term >= 0 && l>>term&1 == 1 }

// scanned: the step by the scanner.
func (p *parser) scanned() move {
	p.Scanned++
	s := scan.Next(p.lang.Rules, p.State, p.text, p.At, p.Want)
	if s.Code == api.ErrNone {
		s.Code = api.ErrSyntax
	}
	f := api.Leaf{Term: s.Term, Pad: s.From - p.At, Len: s.To - s.From, Look: s.Look - p.At, Valid: p.Want}
	f.After, _ = state.Encode(s.After)
	return move{Leaf: f, after: s.After, code: s.Code, from: s.From}
}

// refusal: why the run ends ahead of a step's leaf; OK: it goes on.
func (p *parser) refusal(m move) api.Errno {
	switch {
	case m.code != api.OK:
		return m.code
	case m.Term != theEnd && m.Len == 0 && p.empty == api.MaxEmpty:
		return api.ErrLoop
	case m.Term != theEnd && len(p.Leaves) == api.MaxLeaves:
		return api.ErrLeaves
	}
	return api.OK
}

// goOn: behind the step's leaf.
func (p *parser) goOn(m move) {
	p.Leaves = append(p.Leaves, m.Leaf)
	p.State, p.bytes, p.At = m.after, m.After, m.from+m.Len
	p.empty++
	if m.Len > 0 {
		p.empty = 0
	}
}

// result: that of the run, which has ended.
func (p *parser) result() api.Result {
	r := p.Result
	if r.Code == api.OK {
		r.Want = 0
	}
	r.Nodes = p.shown()
	r.Roots = tree.Roots(r.Nodes)
	return r
}
