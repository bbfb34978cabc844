package state_test

import (
	"math"
	"math/rand"
	"reflect"
	"slices"
	"strings"

	"trellis/api"
)

// What the tests of this package share: the chapter's words told plainly, and states, actions and matched bytes of all kinds.

// clone: the same state in memory of its own, empty lists as nil.
func clone(s api.State) api.State {
	s.Indents = append([]int(nil), s.Indents...)
	s.Queue = append([]string(nil), s.Queue...)
	s.Frames = append([]api.Frame(nil), s.Frames...)
	return s
}

func alike(a, b api.State) bool { return reflect.DeepEqual(clone(a), clone(b)) }

func plainShaped(s api.State) bool {
	good := len(s.Indents) <= 32 && s.Pending >= -1 && s.Pending <= 65536 && len(s.Queue) <= 8 && len(s.Frames) <= 16
	for i, w := range s.Indents {
		good = good && w >= 1 && w <= 65536 && (i == 0 || w > s.Indents[i-1])
	}
	for _, d := range s.Queue {
		good = good && len(d) >= 1 && len(d) <= 16 && !strings.Contains(d, "\n")
	}
	for _, f := range s.Frames {
		good = good && f.Mode >= 0 && f.Mode <= 15 && len(f.Delim) <= 16
	}
	return good
}

func plainTop(s api.State) int {
	if n := len(s.Indents); n > 0 {
		return s.Indents[n-1]
	}
	return 0
}

func plainHolds(s api.State, t api.Test, ended bool) bool {
	set, known := false, false
	for n := range 16 {
		if n == t.N {
			set, known = int(s.Flags)/(1<<n)%2 == 1, true
		}
	}
	return map[api.TestKind]bool{
		api.TestDeeper:    s.Pending >= 0 && s.Pending > plainTop(s),
		api.TestShallower: s.Pending >= 0 && s.Pending < plainTop(s),
		api.TestQueued:    len(s.Queue) != 0,
		api.TestUnqueued:  len(s.Queue) == 0,
		api.TestFlag:      known && set,
		api.TestNoFlag:    known && !set,
		api.TestEnded:     ended,
		api.TestIndented:  len(s.Indents) != 0,
	}[t.Kind]
}

// plainWidth: of the last line.
func plainWidth(m string) int {
	lines := strings.Split(m, "\n")
	w := 0
	for _, b := range []byte(lines[len(lines)-1]) {
		w++
		for b == '\t' && w%8 != 0 {
			w++
		}
	}
	return w
}

func plainBehind(m string, n int) string {
	if n > len(m) {
		return ""
	}
	return m[n:]
}

// fault: a reason for a refusal, and whether there is it.
type fault struct {
	applies bool
	code    api.Errno
}

// first: the code of the first that applies.
func first(l ...fault) api.Errno {
	for _, f := range l {
		if f.applies {
			return f.code
		}
	}
	return api.OK
}

// plainErrno: the errors of 6.4, in the chapter's order.
func plainErrno(s api.State, a api.Act, m string) api.Errno {
	noFlag := a.N < 0 || a.N > 15
	switch a.Kind {
	case api.ActMeasure:
		return first(fault{plainWidth(m) > 65536, api.ErrWidth})
	case api.ActIndent:
		return first(fault{s.Pending <= plainTop(s), api.ErrAct}, fault{len(s.Indents) == 32, api.ErrIndents})
	case api.ActDedent, api.ActDrop:
		return first(fault{len(s.Indents) == 0, api.ErrAct})
	case api.ActEnqueue:
		if a.N < 0 {
			return api.ErrAct
		}
		d := plainBehind(m, a.N)
		return first(fault{len(d) == 0 || len(d) > 16 || strings.Contains(d, "\n"), api.ErrDelim}, fault{len(s.Queue) == 8, api.ErrQueue})
	case api.ActDequeue:
		return first(fault{len(s.Queue) == 0, api.ErrAct})
	case api.ActEnter:
		if a.N < -1 || a.M < 0 || a.M > 15 {
			return api.ErrAct
		}
		return first(fault{a.N >= 0 && len(plainBehind(m, max(a.N, 0))) > 16, api.ErrDelim}, fault{len(s.Frames) == 16, api.ErrFrames})
	case api.ActLeave:
		return first(fault{len(s.Frames) == 0, api.ErrAct})
	case api.ActSet, api.ActClear:
		return first(fault{noFlag, api.ErrAct})
	}
	return api.ErrAct
}

// plainDo: 6.4.
func plainDo(s api.State, a api.Act, m string) (api.State, api.Errno) {
	if !plainShaped(s) {
		return api.State{}, api.ErrBlob
	}
	if code := plainErrno(s, a, m); code != api.OK {
		return api.State{}, code
	}
	s = clone(s)
	switch a.Kind {
	case api.ActMeasure:
		if s.Pending = plainWidth(m); s.Pending == plainTop(s) {
			s.Pending = -1
		}
	case api.ActIndent:
		s.Indents, s.Pending = append(s.Indents, s.Pending), -1
	case api.ActDedent:
		if s.Indents = s.Indents[:len(s.Indents)-1]; s.Pending == plainTop(s) {
			s.Pending = -1
		}
	case api.ActDrop:
		s.Indents = s.Indents[:len(s.Indents)-1]
	case api.ActEnqueue:
		s.Queue = append(s.Queue, plainBehind(m, a.N))
	case api.ActDequeue:
		s.Queue = s.Queue[1:]
	case api.ActEnter:
		f := api.Frame{Mode: a.M}
		if a.N >= 0 {
			f.Delim = plainBehind(m, a.N)
		}
		s.Frames = append(s.Frames, f)
	case api.ActLeave:
		s.Frames = s.Frames[:len(s.Frames)-1]
	case api.ActSet, api.ActClear:
		bit := int(s.Flags) / (1 << a.N) % 2
		want := map[api.ActKind]int{api.ActSet: 1}[a.Kind]
		s.Flags = uint16(int(s.Flags) + (want-bit)*(1<<a.N))
	}
	return s, api.OK
}

// plainAll: 6.5.
func plainAll(s api.State, l []api.Act, m string) (api.State, api.Errno) {
	if !plainShaped(s) {
		return api.State{}, api.ErrBlob
	}
	s = clone(s)
	for _, a := range l {
		var code api.Errno
		if s, code = plainDo(s, a, m); code != api.OK {
			return api.State{}, code
		}
	}
	return s, api.OK
}

func plainNumber(n int) string {
	if n < 128 {
		return string([]byte{byte(n)})
	}
	return string([]byte{byte(128 + n%128)}) + plainNumber(n/128)
}

// plainEncode: 6.6 of a shaped state.
func plainEncode(s api.State) string {
	b := "S" + plainNumber(len(s.Indents))
	for _, w := range s.Indents {
		b += plainNumber(w)
	}
	b += plainNumber(s.Pending+1) + plainNumber(len(s.Queue))
	for _, d := range s.Queue {
		b += plainNumber(len(d)) + d
	}
	b += plainNumber(len(s.Frames))
	for _, f := range s.Frames {
		b += plainNumber(f.Mode) + plainNumber(len(f.Delim)) + f.Delim
	}
	return b + plainNumber(int(s.Flags))
}

// sample: the state of the chapter's examples.
func sample() api.State {
	return api.State{Indents: []int{2, 4}, Pending: 3, Queue: []string{"EOF"}, Frames: []api.Frame{{Mode: 1, Delim: "'"}}, Flags: 1 << 8}
}

// full: as much in it as there may be.
func full() api.State {
	s := api.State{Pending: 65536, Flags: math.MaxUint16}
	for i := range 32 {
		s.Indents = append(s.Indents, 2048*(i+1)-1)
	}
	for range 8 {
		s.Queue = append(s.Queue, strings.Repeat("q", 16))
	}
	for range 16 {
		s.Frames = append(s.Frames, api.Frame{Mode: 15, Delim: strings.Repeat("\n", 16)})
	}
	return s
}

const someBytes = "ab'\"\t \x00\x7f\x80\xffé"

func randomBytes(r *rand.Rand, over string, most int) string {
	b := make([]byte, r.Intn(most+1))
	for i := range b {
		b[i] = over[r.Intn(len(over))]
	}
	return string(b)
}

// few: mostly a small number, at times all there may be.
func few(r *rand.Rand, most int) int {
	if r.Intn(6) == 0 {
		return most - r.Intn(2)
	}
	return r.Intn(3)
}

// randomState: a shaped one.
func randomState(r *rand.Rand) api.State {
	most := []int{6, 200, 65536}[r.Intn(3)]
	s := api.State{Pending: -1, Flags: uint16(r.Uint32()) & []uint16{0, 5, math.MaxUint16}[r.Intn(3)]}
	for range few(r, 32) {
		s.Indents = append(s.Indents, 1+r.Intn(most))
	}
	slices.Sort(s.Indents)
	s.Indents = slices.Compact(s.Indents)
	if r.Intn(3) > 0 {
		s.Pending = r.Intn(most + 1)
	}
	for range few(r, 8) {
		s.Queue = append(s.Queue, someBytes[r.Intn(len(someBytes)):][:1]+randomBytes(r, someBytes, 15))
	}
	for range few(r, 16) {
		s.Frames = append(s.Frames, api.Frame{Mode: r.Intn(16), Delim: randomBytes(r, someBytes+"\n", 16)})
	}
	return s
}

var farNumbers = []int{math.MinInt, math.MinInt32, -2, -1, 0, 65536, 65537, math.MaxInt32, 1 << 32, math.MaxInt - 1, math.MaxInt}

// oddState: a shaped one of which something has been changed.
func oddState(r *rand.Rand) api.State {
	s := randomState(r)
	far := farNumbers[r.Intn(len(farNumbers))]
	switch r.Intn(8) {
	case 0:
		s.Pending = far
	case 1:
		s.Indents = append(s.Indents, far)
	case 2:
		s.Indents = append([]int{far}, s.Indents...)
	case 3:
		s.Queue = append(s.Queue, randomBytes(r, someBytes+"\n", 18))
	case 4:
		s.Frames = append(s.Frames, api.Frame{Mode: far, Delim: randomBytes(r, someBytes, 18)})
	case 5:
		s.Frames = append(s.Frames, api.Frame{Delim: strings.Repeat("d", 15+r.Intn(3))})
	case 6:
		slices.Reverse(s.Indents)
	case 7:
		s.Indents = append(s.Indents, s.Indents...)
	}
	return s
}

func randomAct(r *rand.Rand) api.Act {
	a := api.Act{Kind: api.ActKind(1 + r.Intn(10)), N: r.Intn(4), M: r.Intn(16)}
	if r.Intn(8) == 0 {
		a.N = farNumbers[r.Intn(len(farNumbers))]
	}
	if r.Intn(12) == 0 {
		a.M = farNumbers[r.Intn(len(farNumbers))]
	}
	if r.Intn(40) == 0 {
		a.Kind = api.ActKind(farNumbers[r.Intn(len(farNumbers))])
	}
	return a
}

func randomMatched(r *rand.Rand) string {
	switch r.Intn(8) {
	case 0:
		return randomBytes(r, someBytes+"\n", 20)
	case 1:
		return strings.Repeat("\t", 8192) + randomBytes(r, "\n \t", 2)
	case 2:
		return "\n" + strings.Repeat(" ", r.Intn(200))
	}
	return randomBytes(r, "\n  \tx", 8)
}
