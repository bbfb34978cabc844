package regex

import (
	"strings"

	"trellis/api"
)

// Print: the canonical text of a regex.
func Print(re []api.ReNode) (string, api.Errno) {
	if !Shaped(re) {
		return "", api.ErrShape
	}
	w := writer{re: re}
	w.node(len(re) - 1)
	return w.String(), api.OK
}

// How tightly a node binds: the alternatives most weakly.
const (
	bindAlt = iota
	bindCat
	bindAtom
)

func binds(op api.ReOp) int {
	switch op {
	case api.ReAlt:
		return bindAlt
	case api.ReCat:
		return bindCat
	}
	return bindAtom
}

// writer writes the text of a well shaped tree.
type writer struct {
	re []api.ReNode
	strings.Builder
}

func (w *writer) node(i int) {
	n := w.re[i]
	switch n.Op {
	case api.ReClass:
		w.class(n.Set)
	case api.ReEmpty:
		w.WriteString("()")
	case api.ReAlt:
		w.operand(n.A, bindAlt)
		w.WriteByte('|')
		w.operand(n.B, bindCat)
	case api.ReCat:
		w.operand(n.A, bindCat)
		w.operand(n.B, bindAtom)
	case api.ReStar:
		w.operand(n.A, bindAtom)
		w.WriteByte('*')
	case api.RePlus:
		w.operand(n.A, bindAtom)
		w.WriteByte('+')
	case api.ReOpt:
		w.operand(n.A, bindAtom)
		w.WriteByte('?')
	}
}

// operand: a node, in round brackets if it binds more weakly than it must.
func (w *writer) operand(i, must int) {
	if binds(w.re[i].Op) >= must {
		w.node(i)
		return
	}
	w.WriteByte('(')
	w.node(i)
	w.WriteByte(')')
}

func (w *writer) class(c api.Class) {
	n := count(c)
	switch {
	case n == 1:
		w.single(seek(c, 0, true), signs)
	case c == dot():
		w.WriteByte('.')
	case n > 128 && n < 256:
		w.WriteString("[^")
		w.runs(rest(c))
		w.WriteByte(']')
	default:
		w.WriteByte('[')
		w.runs(c)
		w.WriteByte(']')
	}
}

// seek: the least number from b on that is a byte in the class, or is none; 256 if there is no such byte.
func seek(c api.Class, b int, in bool) int {
	for b < 256 && c.Has(byte(b)) != in {
		b++
	}
	return b
}

func (w *writer) runs(c api.Class) {
	for first := seek(c, 0, true); first < 256; {
		end := seek(c, first, false)
		w.single(first, within)
		if last := end - 1; last > first {
			w.WriteByte('-')
			w.single(last, within)
		}
		first = seek(c, end, true)
	}
}

// single: a byte as it is written where those bytes need a backslash.
func (w *writer) single(n int, marked string) {
	const hex = "0123456789abcdef"
	b := byte(n)
	switch {
	case b == '\n':
		w.WriteString(`\n`)
	case b == '\t':
		w.WriteString(`\t`)
	case b == '\r':
		w.WriteString(`\r`)
	case plain(b, marked):
		w.WriteByte(b)
	case b >= 32 && b <= 126:
		w.WriteByte('\\')
		w.WriteByte(b)
	default:
		w.WriteString(`\x`)
		w.WriteByte(hex[b>>4])
		w.WriteByte(hex[b&15])
	}
}
