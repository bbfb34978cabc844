package state

import (
	"slices"
	"strings"

	"trellis/api"
)

const tab = 8

// do does an action to a shaped state, or refuses it: then the state is not to be used any more.
func do(s *api.State, a api.Act, matched string) api.Errno {
	switch a.Kind {
	case api.ActMeasure:
		return measure(s, matched)
	case api.ActIndent:
		return indent(s)
	case api.ActDedent:
		return dedent(s)
	case api.ActDrop:
		return drop(s)
	case api.ActEnqueue:
		return enqueue(s, a.N, matched)
	case api.ActDequeue:
		return dequeue(s)
	case api.ActEnter:
		return enter(s, a.N, a.M, matched)
	case api.ActLeave:
		return leave(s)
	case api.ActSet:
		return turn(s, a.N, true)
	case api.ActClear:
		return turn(s, a.N, false)
	}
	return api.ErrAct
}

func measure(s *api.State, matched string) api.Errno {
	w := width(matched[strings.LastIndexByte(matched, '\n')+1:])
	if w > api.MaxWidth {
		return api.ErrWidth
	}
	s.Pending = w
	settle(s)
	return api.OK
}

// width counts no further than to just above MaxWidth, however long the line is.
func width(line string) int {
	w := 0
	for i := 0; i < len(line) && w <= api.MaxWidth; i++ {
		if line[i] == '\t' {
			w += tab - w%tab
		} else {
			w++
		}
	}
	return w
}

// settle: what is the top indentation already need not wait for an action.
func settle(s *api.State) {
	if s.Pending == top(*s) {
		s.Pending = nothing
	}
}

func indent(s *api.State) api.Errno {
	switch {
	case s.Pending <= top(*s):
		return api.ErrAct
	case len(s.Indents) == api.MaxIndents:
		return api.ErrIndents
	}
	s.Indents = append(s.Indents, s.Pending)
	s.Pending = nothing
	return api.OK
}

func dedent(s *api.State) api.Errno {
	if code := drop(s); code != api.OK {
		return code
	}
	settle(s)
	return api.OK
}

func drop(s *api.State) api.Errno {
	if len(s.Indents) == 0 {
		return api.ErrAct
	}
	s.Indents = s.Indents[:len(s.Indents)-1]
	return api.OK
}

// behind: the bytes from the place n on, of which there may be none.
func behind(matched string, n int) string {
	return matched[min(n, len(matched)):]
}

func enqueue(s *api.State, n int, matched string) api.Errno {
	if n < 0 {
		return api.ErrAct
	}
	d := behind(matched, n)
	switch {
	case !mayWait(d):
		return api.ErrDelim
	case len(s.Queue) == api.MaxQueue:
		return api.ErrQueue
	}
	s.Queue = append(s.Queue, strings.Clone(d)) // a piece would keep all of what was matched
	return api.OK
}

func dequeue(s *api.State) api.Errno {
	if len(s.Queue) == 0 {
		return api.ErrAct
	}
	s.Queue = slices.Delete(s.Queue, 0, 1)
	return api.OK
}

func enter(s *api.State, n, mode int, matched string) api.Errno {
	if n < -1 || !isMode(mode) {
		return api.ErrAct
	}
	d := ""
	if n >= 0 {
		d = behind(matched, n)
	}
	switch {
	case len(d) > api.MaxDelim:
		return api.ErrDelim
	case len(s.Frames) == api.MaxFrames:
		return api.ErrFrames
	}
	s.Frames = append(s.Frames, api.Frame{Mode: mode, Delim: strings.Clone(d)})
	return api.OK
}

func leave(s *api.State) api.Errno {
	if len(s.Frames) == 0 {
		return api.ErrAct
	}
	s.Frames = s.Frames[:len(s.Frames)-1]
	return api.OK
}

// turn: the flag n is set, or cleared.
func turn(s *api.State, n int, on bool) api.Errno {
	switch {
	case !isFlag(n):
		return api.ErrAct
	case on:
		s.Flags |= 1 << n
	default:
		s.Flags &^= 1 << n
	}
	return api.OK
}
