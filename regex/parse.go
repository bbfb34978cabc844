package regex

import (
	"strings"

	"trellis/api"
)

// Parse reads a regex: its tree, the error, its place.
func Parse(text string) (re []api.ReNode, code api.Errno, at int) {
	defer func() {
		switch f := recover().(type) {
		case nil:
		case api.Fault:
			re, code, at = nil, f.Code, f.At
		default:
			panic(f) // no fault of the text
		}
	}()
	p := parser{text: text}
	return p.whole(), api.OK, 0
}

// parser: its functions go down the grammar, and give up by a panic with an api.Fault.
type parser struct {
	text  string
	at    int // the next byte's place
	open  int // how many round brackets are open
	nodes []api.ReNode
	large bool // there are more nodes than are kept
}

func giveUp(code api.Errno, at int) {
	panic(api.Fault{Code: code, At: at})
}

// peek: the next byte. At the end 0, since that stands nowhere in a regex: both are refused alike.
func (p *parser) peek() byte {
	if p.at == len(p.text) {
		return 0
	}
	return p.text[p.at]
}

// take passes the byte, if it is the next one.
func (p *parser) take(b byte) bool {
	if p.peek() != b {
		return false
	}
	p.at++
	return true
}

// add puts a node behind the others, and answers its place. A text may be of any length, so no more nodes are kept than a tree may have.
func (p *parser) add(n api.ReNode) int {
	if len(p.nodes) == api.MaxRegex {
		p.large = true
		return -1
	}
	p.nodes = append(p.nodes, n)
	return len(p.nodes) - 1
}

func (p *parser) addClass(c api.Class) int {
	return p.add(api.ReNode{Op: api.ReClass, Set: c, A: -1, B: -1})
}

func (p *parser) whole() []api.ReNode {
	p.regex()
	if p.at < len(p.text) {
		giveUp(api.ErrRegex, p.at)
	}
	if p.large {
		giveUp(api.ErrLarge, 0)
	}
	return p.nodes
}

func (p *parser) regex() int {
	a := p.cat()
	for p.take('|') {
		b := p.cat()
		a = p.add(api.ReNode{Op: api.ReAlt, A: a, B: b})
	}
	return a
}

func (p *parser) cat() int {
	a := p.post()
	for p.at < len(p.text) && p.peek() != '|' && p.peek() != ')' {
		b := p.post()
		a = p.add(api.ReNode{Op: api.ReCat, A: a, B: b})
	}
	return a
}

func (p *parser) post() int {
	a := p.atom()
	for {
		var op api.ReOp
		switch p.peek() {
		case '*':
			op = api.ReStar
		case '+':
			op = api.RePlus
		case '?':
			op = api.ReOpt
		default:
			return a
		}
		p.at++
		a = p.add(api.ReNode{Op: op, A: a, B: -1})
	}
}

func (p *parser) atom() int {
	switch p.peek() {
	case '(':
		return p.group()
	case '[':
		return p.addClass(p.class())
	case '.':
		p.at++
		return p.addClass(dot())
	}
	if c, ok := p.set(); ok {
		return p.addClass(c)
	}
	b := p.one(signs)
	return p.addClass(span(b, b))
}

func (p *parser) group() int {
	if p.open == api.MaxRegex {
		giveUp(api.ErrLarge, p.at)
	}
	p.at++
	if p.take(')') {
		return p.add(api.ReNode{Op: api.ReEmpty, A: -1, B: -1})
	}
	p.open++
	a := p.regex()
	p.open--
	if !p.take(')') {
		giveUp(api.ErrRegex, p.at)
	}
	return a
}

func (p *parser) class() api.Class {
	at := p.at
	p.at++
	hat := p.take('^')
	c := p.item()
	for !p.take(']') {
		c = join(c, p.item())
	}
	if hat {
		c = rest(c)
	}
	if c == (api.Class{}) {
		giveUp(api.ErrClass, at)
	}
	return c
}

func (p *parser) item() api.Class {
	if c, ok := p.set(); ok {
		return c
	}
	at := p.at
	first := p.one(within)
	last := first
	if p.take('-') {
		last = p.one(within)
	}
	if last < first {
		giveUp(api.ErrClass, at)
	}
	return span(first, last)
}

// set passes \d, \w or \s, if one of them is next.
func (p *parser) set() (api.Class, bool) {
	next := p.text[p.at:]
	var c api.Class
	switch {
	case strings.HasPrefix(next, `\d`):
		c = digits()
	case strings.HasPrefix(next, `\w`):
		c = letters()
	case strings.HasPrefix(next, `\s`):
		c = blanks()
	default:
		return c, false
	}
	p.at += 2
	return c, true
}

// one: a byte that stands for itself, where those bytes do not, or an escape.
func (p *parser) one(not string) byte {
	if p.take('\\') {
		return p.escape()
	}
	b := p.peek()
	if !plain(b, not) {
		giveUp(api.ErrRegex, p.at)
	}
	p.at++
	return b
}

// escape: what the bytes behind a backslash stand for.
func (p *parser) escape() byte {
	b := p.peek()
	switch {
	case b == 'n':
		b = '\n'
	case b == 't':
		b = '\t'
	case b == 'r':
		b = '\r'
	case b == 'x':
		p.at++
		high := p.digit()
		return high<<4 | p.digit()
	case strings.IndexByte(escaped, b) < 0:
		giveUp(api.ErrRegex, p.at)
	}
	p.at++
	return b
}

// digit: a hexadecimal digit's number.
func (p *parser) digit() byte {
	b := p.peek()
	switch {
	case b >= '0' && b <= '9':
		b -= '0'
	case b >= 'a' && b <= 'f':
		b -= 'a' - 10
	case b >= 'A' && b <= 'F':
		b -= 'A' - 10
	default:
		giveUp(api.ErrRegex, p.at)
	}
	p.at++
	return b
}
