// Package rope: texts that are edited, in chunks that are shared: see doc/01-rope.md.
package rope

import (
	"strings"

	"trellis/api"
)

// Rope is a text; it never changes.
type Rope struct {
	root tree
}

// New: the rope of a text.
func New(text string) *Rope {
	if len(text) > api.MaxText {
		return nil
	}
	return &Rope{build(text)}
}

// Len: how many bytes.
func (r *Rope) Len() int { return r.root.size() }

// String: the text.
func (r *Rope) String() string { return r.Slice(0, r.Len()) }

// Slice: n bytes from a place on, as far as there are some.
func (r *Rope) Slice(at, n int) string {
	at = clamp(at, r.Len())
	n = clamp(n, r.Len()-at)
	var out strings.Builder
	out.Grow(n)
	write(&out, r.root, at, at+n)
	return out.String()
}

// Byte: the byte at a place; false: there is none.
func (r *Rope) Byte(at int) (byte, bool) {
	if at < 0 || at >= r.Len() {
		return 0, false
	}
	chunk, start := find(r.root, at)
	return chunk[at-start], true
}

// Splice: the rope behind an edit.
func (r *Rope) Splice(e api.Edit) (*Rope, api.Errno) {
	at := clamp(e.At, r.Len())
	del := clamp(e.Del, r.Len()-at)
	kept := r.Len() - del
	if len(e.Ins) > api.MaxText-kept {
		return nil, api.ErrBig
	}
	left, head := ahead(r.root, at)
	tail, right := behind(r.root, at+del)
	// What is left of the chunks at both ends goes in with Ins: otherwise small edits would leave ever smaller chunks.
	middle := build(head + e.Ins + tail)
	return &Rope{join(join(left, middle), right)}, api.OK
}

// Depth: how many levels the tree of chunks has.
func (r *Rope) Depth() int { return r.root.levels() }

// Cursor: a reader that stands at a place.
func (r *Rope) Cursor(at int) *Cursor {
	at = clamp(at, r.Len())
	return &Cursor{root: r.root, at: at, far: at}
}

func clamp(n, most int) int { return max(0, min(n, most)) }
