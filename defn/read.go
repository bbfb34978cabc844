package defn

import (
	"slices"
	"strings"

	"trellis/api"
)

// reader: the words that are left to read, what those ahead of them have made, and the error, if one has been come to.
type reader struct {
	left  []api.Word
	end   int // the text's length
	defn  api.Defn
	spots api.Spots
	code  api.Errno
	place int
}

// line: its first word, and what reads the words between that and the `;`, given that one's place.
type line struct {
	first string
	read  func(*reader, int)
}

func lines() []line {
	return []line{
		{"mode", (*reader).mode},
		{"flag", (*reader).flag},
		{"skip", (*reader).skip},
		{"token", (*reader).token},
		{"rule", (*reader).rule},
		{"paint", (*reader).paint},
		{"fold", (*reader).fold},
		{"mark", (*reader).mark},
		{"inject", (*reader).inject},
	}
}

func (r *reader) definition() {
	r.must(api.WordName, "language")
	r.defn.Name = r.name()
	r.must(api.WordSign, ";")
	for table := lines(); len(r.left) > 0; {
		r.line(table)
	}
}

func (r *reader) line(table []line) {
	i := slices.IndexFunc(table, func(l line) bool { return r.sees(api.WordName, l.first) })
	if i < 0 {
		r.refuse()
		return
	}
	at := r.next().At
	table[i].read(r, at)
	r.must(api.WordSign, ";")
}

// ahead: the next word, which is not read yet; where there is none, a word of no kind.
func (r *reader) ahead() api.Word {
	if len(r.left) == 0 {
		return api.Word{}
	}
	return r.left[0]
}

// next reads the next word; there must be one.
func (r *reader) next() api.Word {
	w := r.left[0]
	r.left = r.left[1:]
	return w
}

func (r *reader) sees(kind api.WordKind, text string) bool {
	w := r.ahead()
	return w.Kind == kind && w.Text == text
}

// takes reads the word if it is the next one, and tells whether it is.
func (r *reader) takes(kind api.WordKind, text string) bool {
	seen := r.sees(kind, text)
	if seen {
		r.next()
	}
	return seen
}

// must reads the word; nothing else may be the next one.
func (r *reader) must(kind api.WordKind, text string) {
	if !r.takes(kind, text) {
		r.refuse()
	}
}

// one reads a word of the kind, whatever it says.
func (r *reader) one(kind api.WordKind) api.Word {
	if r.ahead().Kind != kind {
		r.refuse()
		return api.Word{}
	}
	return r.next()
}

func (r *reader) name() string { return r.one(api.WordName).Text }

// choice reads one of these words, and tells which, counted from 0 on.
func (r *reader) choice(of string) int {
	w := r.ahead()
	i := slices.Index(strings.Fields(of), w.Text)
	if w.Kind != api.WordName || i < 0 {
		r.refuse()
		return 0
	}
	r.next()
	return i
}

// refuse: the next word, or the text's end, cannot stand where it does.
func (r *reader) refuse() {
	if len(r.left) == 0 {
		r.fail(api.ErrWord, r.end)
		return
	}
	r.fail(api.ErrWord, r.left[0].At)
}

// fail: the first error is the one that counts. No word is left behind it, so that all that is being read comes to its end.
func (r *reader) fail(code api.Errno, place int) {
	if r.code == api.OK {
		r.code, r.place = code, place
	}
	r.left = nil
}
