package words

import (
	"strings"

	"trellis/api"
)

func sound(w api.Word) bool {
	switch w.Kind {
	case api.WordName:
		return soundName(w.Text)
	case api.WordString:
		return true
	case api.WordRegex:
		return soundRegex(w.Text)
	case api.WordNumber:
		return w.N >= 0 && w.N <= api.MaxNumber
	case api.WordSign:
		return len(w.Text) == 1 && strings.Contains(signs, w.Text)
	}
	return false
}

func soundName(text string) bool {
	if text == "" || len(text) > api.MaxName || isDigit(int(text[0])) {
		return false
	}
	for i := range len(text) {
		if !isInName(int(text[i])) {
			return false
		}
	}
	return true
}

// soundRegex: does the regex that begins with a slash ahead of the text end with one behind it?
func soundRegex(text string) bool {
	c := cutter{text: "/" + text + "/"}
	for c.inRegex() {
	}
	return c.code == api.OK && c.at == len(text)+1
}

// quoted: a string's text as it is written.
func quoted(text string) string {
	out := []byte{'"'}
	for i := range len(text) {
		out = written(out, text[i])
	}
	return string(append(out, '"'))
}

// written: a byte of a string behind what is written already.
func written(out []byte, b byte) []byte {
	if i := strings.IndexByte(meant, b); i >= 0 {
		return append(out, '\\', escaped[i])
	}
	if b < 32 || b > 126 {
		return append(out, '\\', 'x', digits[b>>4], digits[b&15])
	}
	return append(out, b)
}
