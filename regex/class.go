package regex

import (
	"math/bits"
	"strings"

	"trellis/api"
)

// The bytes that need a backslash to stand for themselves outside a class, in a class, and all that may have one.
const (
	signs   = `\/|*+?()[].`
	within  = `\/[]-^`
	escaped = signs + `-^`
)

// plain: does the byte stand for itself, where those bytes do not?
func plain(b byte, not string) bool {
	return b >= 32 && b <= 126 && strings.IndexByte(not, b) < 0
}

// span: the bytes from one to another.
func span(first, last byte) api.Class {
	var c api.Class
	for b := int(first); b <= int(last); b++ {
		c[b>>6] |= 1 << (b & 63)
	}
	return c
}

func join(c, d api.Class) api.Class {
	for i, w := range d {
		c[i] |= w
	}
	return c
}

// rest: all bytes that are not in the class.
func rest(c api.Class) api.Class {
	for i, w := range c {
		c[i] = ^w
	}
	return c
}

func dot() api.Class { return rest(span('\n', '\n')) }

func digits() api.Class { return span('0', '9') }

func letters() api.Class {
	return join(join(span('a', 'z'), span('A', 'Z')), join(digits(), span('_', '_')))
}

func blanks() api.Class {
	return join(span('\t', '\n'), join(span('\r', '\r'), span(' ', ' ')))
}

// count: how many bytes are in the class.
func count(c api.Class) int {
	n := 0
	for _, w := range c {
		n += bits.OnesCount64(w)
	}
	return n
}
