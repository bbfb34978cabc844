package state

import (
	"math"
	"slices"
	"strings"

	"trellis/api"
)

// head: the byte with which a state's bytes begin.
const head = 'S'

// part: a part of a state's bytes. Writer and reader go through them in this order.
type part int

const (
	partIndents part = iota
	partPending
	partQueue
	partFrames
	partFlags
	parts // how many there are
)

func appendPart(b []byte, s api.State, p part) []byte {
	switch p {
	case partIndents:
		b = appendNumber(b, len(s.Indents))
		for _, w := range s.Indents {
			b = appendNumber(b, w)
		}
	case partPending:
		b = appendNumber(b, s.Pending+1)
	case partQueue:
		b = appendNumber(b, len(s.Queue))
		for _, d := range s.Queue {
			b = appendText(b, d)
		}
	case partFrames:
		b = appendNumber(b, len(s.Frames))
		for _, f := range s.Frames {
			b = appendText(appendNumber(b, f.Mode), f.Delim)
		}
	case partFlags:
		b = appendNumber(b, int(s.Flags))
	}
	return b
}

// The numbers are written in groups of bits; no number of a shaped state needs more groups than mostGroups.
const (
	groupBits  = 7
	another    = 1 << groupBits // on top of a group: another one follows
	mostGroups = 3
)

func appendNumber(b []byte, n int) []byte {
	for ; n >= another; n >>= groupBits {
		b = append(b, byte(n%another+another))
	}
	return append(b, byte(n))
}

func appendText(b []byte, s string) []byte {
	return append(appendNumber(b, len(s)), s...)
}

// reader: the bytes that have not been read yet.
type reader struct{ left string }

// part reads the part p into the state. What it has read keeps to the limits; whether it is shaped is asked of the whole.
func (r *reader) part(s *api.State, p part) api.Errno {
	code := api.OK
	switch p {
	case partIndents:
		s.Indents, code = list(r, api.MaxIndents, r.indent)
	case partPending:
		s.Pending, code = r.number(api.MaxWidth + 1)
		s.Pending--
	case partQueue:
		s.Queue, code = list(r, api.MaxQueue, r.delim)
	case partFrames:
		s.Frames, code = list(r, api.MaxFrames, r.frame)
	case partFlags:
		flags := 0
		flags, code = r.number(math.MaxUint16)
		s.Flags = uint16(flags)
	}
	return code
}

// list reads how many things there are, and each.
func list[T any](r *reader, most int, one func() (T, api.Errno)) ([]T, api.Errno) {
	n, code := r.number(most)
	if code != api.OK {
		return nil, code
	}
	l := slices.Grow([]T(nil), n)
	for range n {
		x, code := one()
		if code != api.OK {
			return nil, code
		}
		l = append(l, x)
	}
	return l, api.OK
}

func (r *reader) indent() (int, api.Errno) { return r.number(api.MaxWidth) }

func (r *reader) delim() (string, api.Errno) {
	n, code := r.number(api.MaxDelim)
	if code != api.OK || n > len(r.left) {
		return "", api.ErrBlob
	}
	d := strings.Clone(r.left[:n])
	r.left = r.left[n:]
	return d, api.OK
}

func (r *reader) frame() (api.Frame, api.Errno) {
	mode, code := r.number(api.MaxModes - 1)
	if code != api.OK {
		return api.Frame{}, code
	}
	d, code := r.delim()
	return api.Frame{Mode: mode, Delim: d}, code
}

// number reads a number of at most most; one that could be written in fewer bytes is none.
func (r *reader) number(most int) (int, api.Errno) {
	n := 0
	for g := range min(mostGroups, len(r.left)) {
		b := int(r.left[g])
		n += b % another << (g * groupBits)
		if b >= another {
			continue
		}
		if n > most || b == 0 && g > 0 {
			return 0, api.ErrBlob
		}
		r.left = r.left[g+1:]
		return n, api.OK
	}
	return 0, api.ErrBlob
}
