package json

import (
	"strings"

	"trellis/api"
)

const hexDigits = "0123456789abcdef"

// letters: by a byte the one that says it behind a backslash; 0: none does.
var letters = [...]byte{'\b': 'b', '\t': 't', '\n': 'n', '\f': 'f', '\r': 'r', '"': '"', '\\': '\\'}

// writer: a well shaped value, and its text so far.
type writer struct {
	value []api.JNode
	out   strings.Builder
}

// one: writes the value that begins at a place; the place behind it.
func (w *writer) one(at int) int {
	n := w.value[at]
	switch n.Kind {
	case api.JNumber:
		w.out.WriteString(n.Text)
	case api.JString:
		w.quoted(n.Text)
	case api.JList:
		return w.several(at, '[', ']')
	case api.JObject:
		return w.several(at, '{', '}')
	default:
		w.out.WriteString(spelt(n.Kind))
	}
	return at + 1
}

func (w *writer) several(at int, opening, closing byte) int {
	in := w.value[at]
	at++
	w.out.WriteByte(opening)
	for i := range in.Kids {
		if i > 0 {
			w.out.WriteByte(',')
		}
		if in.Kind == api.JObject {
			w.quoted(w.value[at].Key)
			w.out.WriteByte(':')
		}
		at = w.one(at)
	}
	w.out.WriteByte(closing)
	return at
}

func (w *writer) quoted(text string) {
	w.out.WriteByte('"')
	for i := range len(text) {
		w.char(text[i])
	}
	w.out.WriteByte('"')
}

func (w *writer) char(b byte) {
	switch {
	case int(b) < len(letters) && letters[b] != 0:
		w.out.WriteByte('\\')
		w.out.WriteByte(letters[b])
	case b < ' ':
		w.out.WriteString(`\u00`)
		w.out.WriteByte(hexDigits[b>>4])
		w.out.WriteByte(hexDigits[b&15])
	default:
		w.out.WriteByte(b)
	}
}
