package table

import (
	"errors"
	"strconv"
)

// A count is written in groups of bits. One of more groups than mostGroups is above 2^63 - 1, or does not need them all.
const (
	groupBits  = 7
	another    = 1 << groupBits // on top of a group: another one follows
	mostGroups = 9
)

var errCount = errors.New("table: bytes that are no count")

func appendCount(b []byte, n int) []byte {
	for ; n >= another; n >>= groupBits {
		b = append(b, byte(n%another+another))
	}
	return append(b, byte(n))
}

// firstCount: the count with which the bytes begin, and how many of them it has.
func firstCount(b string) (uint64, int, error) {
	var n uint64
	for i := range min(mostGroups, len(b)) {
		n |= uint64(b[i]%another) << (i * groupBits)
		switch {
		case b[i] >= another:
			continue
		case b[i] == 0 && i > 0: // it could end ahead of this group
			return 0, 0, errCount
		}
		return n, i + 1, nil
	}
	return 0, 0, errCount
}

// placed: an error, and where in the image it was met.
type placed struct {
	at  int
	why error
}

func (p *placed) Error() string { return p.why.Error() + " at " + strconv.Itoa(p.at) }

// Unwrap gives what was met.
func (p *placed) Unwrap() error { return p.why }
