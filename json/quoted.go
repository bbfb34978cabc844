package json

import "unicode/utf8"

// escapes: by the byte behind a backslash the byte that both say; 0: it says none by itself.
var escapes = [...]byte{'"': '"', '\\': '\\', '/': '/', 'b': '\b', 'f': '\f', 'n': '\n', 'r': '\r', 't': '\t'}

// The numbers with which code points above the others begin and end, if they are written as two.
const (
	firstHigh = 0xd800
	firstLow  = 0xdc00
	lastLow   = 0xdfff
	lastUnit  = 0xffff
)

// quoted: what a string says.
func (r *reader) quoted() (string, bool) {
	if !r.take('"') {
		return "", r.wrong()
	}
	r.said = r.said[:0]
	for !r.take('"') {
		if !r.char() {
			return "", false
		}
	}
	return string(r.said), true
}

func (r *reader) char() bool {
	switch b := r.next(); {
	case b < ' ': // end too
		return r.wrong()
	case b == '\\':
		r.at++
		return r.escape()
	case b >= utf8.RuneSelf:
		return r.sequence()
	default:
		r.said = append(r.said, byte(b))
		r.at++
		return true
	}
}

// escape: what stands behind a backslash.
func (r *reader) escape() bool {
	if r.take('u') {
		return r.codePoint()
	}
	b := r.next()
	if b == end || b >= len(escapes) || escapes[b] == 0 {
		return r.wrong()
	}
	r.said = append(r.said, escapes[b])
	r.at++
	return true
}

// codePoint: the digits of one, and if it needs two numbers those of the second.
func (r *reader) codePoint() bool {
	c, ok := r.unit(begins)
	if !ok {
		return false
	}
	if c >= firstHigh && c < firstLow {
		if !r.take('\\') || !r.take('u') {
			return r.wrong()
		}
		low, ok := r.unit(follows)
		if !ok {
			return false
		}
		c = lastUnit + 1 + (c-firstHigh)<<10 + (low - firstLow)
	}
	r.said = utf8.AppendRune(r.said, c)
	return true
}

// unit: the number that four digits say. Some number with which the digits so far begin must be possible: may tells it of all that lie between two.
func (r *reader) unit(may func(from, to rune) bool) (rune, bool) {
	c := rune(0)
	for bits := 12; bits >= 0; bits -= 4 {
		d := base16(r.next())
		c += d << bits
		if d == none || !may(c, c+1<<bits-1) {
			return 0, r.wrong()
		}
		r.at++
	}
	return c, true
}

// begins: may a code point begin with one of these numbers?
func begins(from, to rune) bool { return from < firstLow || to > lastLow }

// follows: may one of them be the second of two?
func follows(from, to rune) bool { return from <= lastLow && to >= firstLow }

// base16: a digit's value, or none.
func base16(b int) rune {
	switch {
	case isDigit(b):
		return rune(b - '0')
	case b >= 'a' && b <= 'f':
		return rune(b - 'a' + 10)
	case b >= 'A' && b <= 'F':
		return rune(b - 'A' + 10)
	}
	return none
}

// sequence: a code point in several bytes of UTF-8.
func (r *reader) sequence() bool {
	from := r.at
	more, least, most := led(r.next())
	if more == 0 {
		return r.wrong()
	}
	r.at++
	for range more {
		if b := r.next(); b < least || b > most {
			return r.wrong()
		}
		r.at++
		least, most = 0x80, 0xbf
	}
	r.said = append(r.said, r.text[from:r.at]...)
	return true
}

// led: how many bytes follow the first one of a sequence, 0 if none begins with it, and from where to where the next one may be: what would be longer than need be, half of a pair, or no code point at all begins outside.
func led(b int) (more, least, most int) {
	switch {
	case b >= 0xc2 && b <= 0xdf:
		return 1, 0x80, 0xbf
	case b == 0xe0:
		return 2, 0xa0, 0xbf
	case b == 0xed:
		return 2, 0x80, 0x9f
	case b >= 0xe1 && b <= 0xef:
		return 2, 0x80, 0xbf
	case b == 0xf0:
		return 3, 0x90, 0xbf
	case b >= 0xf1 && b <= 0xf3:
		return 3, 0x80, 0xbf
	case b == 0xf4:
		return 3, 0x80, 0x8f
	}
	return 0, 0, 0
}
