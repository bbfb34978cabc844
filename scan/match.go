package scan

import (
	"strings"

	"trellis/api"
)

func outside(text string, at int) bool { return at < 0 || at > len(text) }

// asksState: does what matches hang on the state?
func asksState(p api.PatKind) bool { return p == api.PatDelim || p == api.PatBody }

// row: bytes that stand as they are. It looks no further than to the first byte that differs.
func row(text, bytes string, at int) (int, int) {
	if bytes == "" {
		return none, at
	}
	for i := range len(bytes) {
		if at == len(text) || text[at] != bytes[i] {
			return none, at + 1
		}
		at++
	}
	return at, at
}

// delim: the top frame's delimiter.
func delim(s *api.State, text string, at int) (int, int) {
	if len(s.Frames) == 0 {
		return none, at
	}
	return row(text, s.Frames[len(s.Frames)-1].Delim, at)
}

// body: up to the line that is the first delimiter that waits. Where the match begins, a line begins too.
func body(s *api.State, text string, at int) (int, int) {
	if len(s.Queue) == 0 {
		return none, at
	}
	for line := at; ; {
		if end, _ := row(text, s.Queue[0], line); end != none && endsLine(text, end) {
			return end, end + 1
		}
		next := strings.IndexByte(text[line:], '\n')
		if next < 0 {
			return none, len(text) + 1
		}
		line += next + 1
	}
}

func endsLine(text string, at int) bool { return at == len(text) || text[at] == '\n' }
