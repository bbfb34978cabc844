package words

import (
	"strings"

	"trellis/api"
)

// cutter: a text as far as it has been read, the words that have been cut off, and the error, if one has been come to.
type cutter struct {
	text  string
	at    int    // the place of what was read last
	from  int    // where that began which is being read
	n     int    // what a number's digits are so far
	bytes []byte // what a string stands for so far
	words []api.Word
	code  api.Errno
	place int
}

// read: the next byte, or end.
func (c *cutter) read() int {
	c.at++
	if c.at >= len(c.text) {
		return end
	}
	return int(c.text[c.at])
}

func (c *cutter) fail(code api.Errno, place int) { c.code, c.place = code, place }

// run: the machine, up to the end or an error. A state that ends where another word may begin hands the byte on to begin, so that none is read twice.
func (c *cutter) run() {
	var b int
between:
	b = c.read()
begin:
	c.from = c.at
	switch {
	case b == end || c.code != api.OK:
		return
	case isBlank(b):
		goto between
	case b == '#':
		goto comment
	case isLetter(b):
		goto name
	case isDigit(b):
		goto number
	case b == '"':
		goto text
	case b == '/':
		goto regex
	case isSign(b):
		c.cut(api.WordSign, c.text[c.from:c.at+1])
		goto between
	}
	c.fail(api.ErrByte, c.at)
	return
comment:
	b = c.read()
	if stops(b) {
		goto begin
	}
	goto comment
name:
	b = c.read()
	if isInName(b) {
		goto name
	}
	c.cut(api.WordName, c.text[c.from:c.at])
	goto begin
number:
	c.n = min(10*c.n+b-'0', api.MaxNumber+1)
	b = c.read()
	if isDigit(b) {
		goto number
	}
	c.cut(api.WordNumber, "")
	goto begin
text:
	if c.inText() {
		goto text
	}
	goto between
regex:
	if c.inRegex() {
		goto regex
	}
	goto between
}

// cut: a word is whole.
func (c *cutter) cut(kind api.WordKind, text string) {
	switch {
	case kind == api.WordName && len(text) > api.MaxName:
		c.fail(api.ErrName, c.from)
	case c.n > api.MaxNumber:
		c.fail(api.ErrNumber, c.from)
	}
	c.words = append(c.words, api.Word{Kind: kind, Text: strings.Clone(text), N: c.n, At: c.from})
	c.n, c.bytes = 0, c.bytes[:0]
}

// inText: a byte of a string, or an escape; false: the string ends with it, or cannot go on.
func (c *cutter) inText() bool {
	b := c.read()
	at := c.at
	switch {
	case b == '"':
		c.cut(api.WordString, string(c.bytes))
		return false
	case stops(b):
		c.fail(api.ErrString, c.from)
		return false
	case b == '\\':
		b = c.escape()
	}
	if b == none {
		c.fail(api.ErrString, at)
		return false
	}
	c.bytes = append(c.bytes, byte(b))
	return true
}

// escape: the byte for which it stands, the backslash having been read; or none.
func (c *cutter) escape() int {
	b := c.read()
	if b == 'x' {
		return c.twoDigits()
	}
	for i := range len(escaped) {
		if b == int(escaped[i]) {
			return int(meant[i])
		}
	}
	return none
}

// twoDigits: the byte that two digits of base 16 tell, or none.
func (c *cutter) twoDigits() int {
	high := base16(c.read())
	if high == none { // what stands behind is not looked at: it may be the line's end
		return none
	}
	low := base16(c.read())
	if low == none {
		return none
	}
	return high<<4 | low
}

// inRegex: a byte of a regex, or a backslash and what belongs to it; false: the regex ends with it, or cannot go on.
func (c *cutter) inRegex() bool {
	b := c.read()
	switch b {
	case '/':
		c.cut(api.WordRegex, c.text[c.from+1:c.at])
		return false
	case '\\':
		b = c.read()
	}
	if stops(b) {
		c.fail(api.ErrString, c.from)
		return false
	}
	return true
}
