package state

import (
	"strings"

	"trellis/api"
)

// nothing: what Pending is if nothing is pending.
const nothing = -1

// top: the top indentation.
func top(s api.State) int {
	if len(s.Indents) == 0 {
		return 0
	}
	return s.Indents[len(s.Indents)-1]
}

func risingWidths(l []int) bool {
	if len(l) > api.MaxIndents {
		return false
	}
	below := 0
	for _, w := range l {
		if w <= below || w > api.MaxWidth {
			return false
		}
		below = w
	}
	return true
}

func shapedQueue(l []string) bool {
	if len(l) > api.MaxQueue {
		return false
	}
	for _, d := range l {
		if !mayWait(d) {
			return false
		}
	}
	return true
}

func shapedFrames(l []api.Frame) bool {
	if len(l) > api.MaxFrames {
		return false
	}
	for _, f := range l {
		if !isMode(f.Mode) || len(f.Delim) > api.MaxDelim {
			return false
		}
	}
	return true
}

// mayWait: a body ends with a line that is its delimiter, so that one has a byte, and none that ends a line.
func mayWait(d string) bool {
	return d != "" && len(d) <= api.MaxDelim && strings.IndexByte(d, '\n') < 0
}

func isMode(n int) bool { return 0 <= n && n < api.MaxModes }

func isFlag(n int) bool { return 0 <= n && n < api.MaxFlags }

// copied: the state in memory of its own, so that actions may be done in place.
func copied(s api.State) api.State {
	s.Indents = append([]int(nil), s.Indents...)
	s.Queue = append([]string(nil), s.Queue...)
	for i, d := range s.Queue {
		s.Queue[i] = strings.Clone(d)
	}
	s.Frames = append([]api.Frame(nil), s.Frames...)
	for i, f := range s.Frames {
		s.Frames[i].Delim = strings.Clone(f.Delim)
	}
	return s
}
