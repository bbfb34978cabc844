package rpc

import "trellis/api"

// Buffer gathers bytes that come in pieces.
type Buffer struct {
	waits  []byte    // the beginning of a frame that is not whole
	broken api.Errno // the error at which it has ended; OK: it goes on
}

// lay: a copy of the chunk behind what waits. Room is doubled, so that a frame that comes byte by byte is not moved at each of them.
func (b *Buffer) lay(chunk []byte) {
	old, whole := len(b.waits), len(b.waits)+len(chunk)
	if whole > cap(b.waits) {
		roomy := make([]byte, old, max(whole, 2*old))
		copy(roomy, b.waits)
		b.waits = roomy
	}
	b.waits = b.waits[:whole]
	copy(b.waits[old:], chunk)
}

// takeAll: the bodies of the frames that are whole, and why it goes no further.
func (b *Buffer) takeAll() ([]string, api.Errno) {
	var bodies []string
	for {
		body, n, code := Take(b.waits)
		if code != api.OK {
			return bodies, code
		}
		bodies = append(bodies, body)
		b.cut(n)
	}
}

// cut: the first n bytes go. No room is left behind the others: what comes next moves them, and the memory of all that has been taken goes.
func (b *Buffer) cut(n int) {
	whole := len(b.waits)
	if n == whole {
		b.waits = nil // an empty rest would hold on to that memory
		return
	}
	b.waits = b.waits[n:whole:whole]
}
