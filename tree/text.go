package tree

import "trellis/api"

const hexDigits = "0123456789abcdef"

// Text: the trees as a text.
func Text(t []api.Node) string {
	c := Walk(t)
	if c.Place() == none {
		return ""
	}
	var out []byte
	for {
		out = appendBegin(out, t[c.Place()])
		if !c.Down() {
			out = appendClose(out, t[c.Place()])
			for !c.Next() {
				if !c.Up() {
					return string(out)
				}
				out = appendClose(out, t[c.Place()])
			}
		}
		out = append(out, ' ')
	}
}

// inBrackets: does the node's text stand in brackets?
func inBrackets(n api.Node) bool { return n.Named || n.Kids > 0 }

// appendBegin: a node's text up to its children's.
func appendBegin(out []byte, n api.Node) []byte {
	if n.Field != "" {
		out = append(out, n.Field...)
		out = append(out, ": "...)
	}
	if inBrackets(n) {
		out = append(out, '(')
	}
	if n.Named {
		return append(out, n.Name...)
	}
	return appendQuoted(out, n.Name)
}

// appendClose: a node's text behind its children's.
func appendClose(out []byte, n api.Node) []byte {
	if inBrackets(n) {
		out = append(out, ')')
	}
	return out
}

func appendQuoted(out []byte, s string) []byte {
	out = append(out, '"')
	for i := range len(s) {
		switch b := s[i]; {
		case b == '"', b == '\\':
			out = append(out, '\\', b)
		case b == '\n':
			out = append(out, '\\', 'n')
		case b < ' ', b > '~':
			out = append(out, '\\', 'x', hexDigits[b>>4], hexDigits[b&15])
		default:
			out = append(out, b)
		}
	}
	return append(out, '"')
}
