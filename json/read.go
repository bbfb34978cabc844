package json

import (
	"strings"

	"trellis/api"
)

// end: what is read where a text ends.
const end = -1

// byteAt: the byte at a place, or end. (A number, so that end can be asked about like any byte.)
func byteAt(text string, at int) int {
	if at >= len(text) {
		return end
	}
	return int(text[at])
}

func isBlank(b int) bool { return b == ' ' || b == '\t' || b == '\n' || b == '\r' }

// reader: a text as far as it has been read, what it says so far, and the error, if one has been come to: then the reading calls answer false, one after the other.
type reader struct {
	text  string
	at    int    // the place of the byte that comes next
	said  []byte // what a string says so far
	value []api.JNode
	code  api.Errno
	place int
}

func (r *reader) next() int { return byteAt(r.text, r.at) }

// take: passes over the byte that comes next, if it is this one.
func (r *reader) take(b byte) bool {
	if r.next() != int(b) {
		return false
	}
	r.at++
	return true
}

func (r *reader) blanks() {
	for isBlank(r.next()) {
		r.at++
	}
}

func (r *reader) fail(code api.Errno, place int) bool {
	r.code, r.place = code, place
	return false
}

// wrong: what comes next cannot stand there.
func (r *reader) wrong() bool { return r.fail(api.ErrJson, r.at) }

func (r *reader) add(n api.JNode) bool {
	r.value = append(r.value, n)
	return true
}

// all: the whole text.
func (r *reader) all() bool {
	r.blanks()
	if !r.one("", 0) {
		return false
	}
	r.blanks()
	if r.next() != end {
		return r.wrong()
	}
	return true
}

// one: a value with its key, within so many lists and objects.
func (r *reader) one(key string, depth int) bool {
	switch b := r.next(); {
	case b == 'n':
		return r.word(api.JNull, key)
	case b == 'f':
		return r.word(api.JFalse, key)
	case b == 't':
		return r.word(api.JTrue, key)
	case b == '-' || isDigit(b):
		return r.number(key)
	case b == '"':
		text, ok := r.quoted()
		return ok && r.add(api.JNode{Kind: api.JString, Key: key, Text: text})
	case b == '[':
		return r.list(key, depth)
	case b == '{':
		return r.object(key, depth)
	}
	return r.wrong()
}

// spelt: the text of values of a kind that all have the same one.
func spelt(kind api.JKind) string {
	switch kind {
	case api.JNull:
		return "null"
	case api.JFalse:
		return "false"
	case api.JTrue:
		return "true"
	}
	return ""
}

func (r *reader) word(kind api.JKind, key string) bool {
	w := spelt(kind)
	for i := range len(w) {
		if !r.take(w[i]) {
			return r.wrong()
		}
	}
	return r.add(api.JNode{Kind: kind, Key: key})
}

func (r *reader) number(key string) bool {
	from := r.at
	to, ok := number(r.text, from)
	r.at = to
	if !ok {
		return r.wrong()
	}
	return r.add(api.JNode{Kind: api.JNumber, Key: key, Text: strings.Clone(r.text[from:to])})
}

func (r *reader) list(key string, depth int) bool {
	n := api.JNode{Kind: api.JList, Key: key}
	return r.several(n, ']', depth, func() bool { return r.one("", depth+1) })
}

func (r *reader) object(key string, depth int) bool {
	n := api.JNode{Kind: api.JObject, Key: key}
	before := keys{}
	return r.several(n, '}', depth, func() bool { return r.member(before, depth+1) })
}

// several: a list or an object, whose opening byte comes next, up to the byte that closes it; part reads one of what stands in it.
func (r *reader) several(n api.JNode, closing byte, depth int, part func() bool) bool {
	if depth == api.MaxJdeep {
		return r.fail(api.ErrJdeep, r.at)
	}
	at := len(r.value)
	r.add(n)
	r.at++
	r.blanks()
	if r.take(closing) {
		return true
	}
	for part() {
		r.value[at].Kids++
		r.blanks()
		if r.take(closing) {
			return true
		}
		if !r.take(',') {
			return r.wrong()
		}
		r.blanks()
	}
	return false
}

// member: a key and its value; before: the keys ahead of it in its object.
func (r *reader) member(before keys, depth int) bool {
	from := r.at
	key, ok := r.quoted()
	if !ok {
		return false
	}
	if !before.add(key) {
		return r.fail(api.ErrJson, from)
	}
	r.blanks()
	if !r.take(':') {
		return r.wrong()
	}
	r.blanks()
	return r.one(key, depth)
}
