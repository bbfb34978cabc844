package rpc_test

import (
	"fmt"
	"math/rand"
	"regexp"
	"slices"
	"strconv"
	"strings"
	"testing"

	"trellis/api"
	"trellis/rpc"
)

// What the tests of this package share: the chapter's words told plainly, and bytes of all kinds.

const head = "Content-Length: "

// frame: the bytes of a body's frame.
func frame(body string) string {
	return fmt.Sprintf("%s%d%c%c%c%c%s", head, len(body), 13, 10, 13, 10, body)
}

// What a frame begins with, less its body: the number is the first group, what stands behind the head the second.
var (
	wholeHead = regexp.MustCompile(`^Content-Length: (0|[1-9][0-9]*)\r\n\r\n((?s:.*))$`)
	someHead  = regexp.MustCompile(`^Content-Length: (0|[1-9][0-9]*)(\r(\n\r?)?)?$`)
	tooGreat  = regexp.MustCompile(`^Content-Length: [1-9][0-9]*$`) // of what begins no frame, though what is ahead of its last byte does
)

// size: the number that digits tell; false: above MaxFrame.
func size(digits string) (int, bool) {
	n, err := strconv.Atoi(digits)
	return n, err == nil && n <= api.MaxFrame
}

// opens: is there a frame with which the bytes begin, or that begins with them?
func opens(b string) bool {
	if strings.HasPrefix(head, b) {
		return true
	}
	parts := someHead.FindStringSubmatch(b)
	if parts == nil {
		parts = wholeHead.FindStringSubmatch(b)
	}
	if parts == nil {
		return false
	}
	_, ok := size(parts[1])
	return ok
}

// answer: what Take answers.
type answer struct {
	body string
	n    int
	code api.Errno
}

// plainTake: the chapter's words: what begins no frame is refused at the byte with which it ceases to begin one.
func plainTake(b string) answer {
	for i := range min(len(b), 40) {
		if opens(b[:i+1]) {
			continue
		}
		if tooGreat.MatchString(b[:i+1]) {
			return answer{code: api.ErrFrame}
		}
		return answer{code: api.ErrHead}
	}
	if parts := wholeHead.FindStringSubmatch(b); parts != nil {
		if n, _ := size(parts[1]); len(parts[2]) >= n {
			body := parts[2][:n]
			return answer{body, len(frame(body)), api.OK}
		}
	}
	return answer{code: api.ErrMore}
}

// String: a long body is told by its beginning.
func (a answer) String() string { return fmt.Sprintf("%.200q, %d, %d", a.body, a.n, a.code) }

func take(b string) answer {
	body, n, code := rpc.Take([]byte(b))
	return answer{body, n, code}
}

// sameTake: Take answers what the chapter says.
func sameTake(t *testing.T, b string) answer {
	t.Helper()
	got, want := take(b), plainTake(b)
	if got != want {
		t.Fatalf("26.2: Take(%.200q) = %v, want %v", b, got, want)
	}
	return got
}

// told: what a buffer's Feeds have answered, one behind the other, up to the first error.
type told struct {
	bodies []string
	code   api.Errno
	waits  int
}

// String: long bodies are told by their beginnings.
func (a told) String() string {
	return fmt.Sprintf("%d bodies, %.60q, %d, %d wait", len(a.bodies), a.bodies[:min(len(a.bodies), 9)], a.code, a.waits)
}

func (a told) alike(b told) bool {
	return slices.Equal(a.bodies, b.bodies) && a.code == b.code && a.waits == b.waits
}

// plainFeed: what one Feed of all the bytes answers.
func plainFeed(b string) told {
	var out told
	for {
		next := plainTake(b)
		switch next.code {
		case api.OK:
			out.bodies = append(out.bodies, next.body)
			b = b[next.n:]
		case api.ErrMore:
			out.waits = len(b)
			return out
		default:
			out.code = next.code
			return out
		}
	}
}

// feedAll: the chunks, one Feed behind the other.
func feedAll(t *testing.T, chunks []string) told {
	t.Helper()
	b := rpc.New()
	var out told
	for _, c := range chunks {
		bodies, code := b.Feed([]byte(c))
		out.bodies = append(out.bodies, bodies...)
		out.code, out.waits = code, b.Waiting()
		if code != api.OK {
			stays(t, b, code)
			return out
		}
	}
	return out
}

// stays: 26.3 of a broken buffer.
func stays(t *testing.T, b *rpc.Buffer, code api.Errno) {
	t.Helper()
	for _, c := range []string{"", "x", frame("{}"), head} {
		bodies, again := b.Feed([]byte(c))
		if len(bodies) > 0 || again != code || b.Waiting() != 0 {
			t.Fatalf("26.3: a buffer broken by %d: Feed(%q) = %q, %d, %d wait", code, c, bodies, again, b.Waiting())
		}
	}
}

func pick[T any](r *rand.Rand, l ...T) T { return l[r.Intn(len(l))] }

// anyBody: a few bytes, those of frames among them.
func anyBody(r *rand.Rand) string {
	switch r.Intn(6) {
	case 0:
		return ""
	case 1:
		return frame(pick(r, "", "{}", "\r\n"))
	case 2:
		return strings.Repeat(pick(r, "x", "\r\n\r\n", "é"), r.Intn(60))
	}
	b := make([]byte, r.Intn(30))
	r.Read(b)
	return string(b)
}

// anyStream: some frames, one behind the other.
func anyStream(r *rand.Rand) string {
	var out strings.Builder
	for range r.Intn(5) {
		out.WriteString(frame(anyBody(r)))
	}
	return out.String()
}

// spoilt: a byte less, more, or another one, or the rest gone.
func spoilt(r *rand.Rand, b string) string {
	at := r.Intn(len(b) + 1)
	to := min(at+r.Intn(2), len(b))
	switch r.Intn(5) {
	case 0:
		return b[:at]
	case 3:
		return strings.Replace(b, head, head+pick(r, "1", "10", "1000000", "2097153"), 1+r.Intn(2))
	case 1:
		return b[:at] + pick(r, "\r", "\n", "0", "9", " ", "C", "c", "-", ":", "\x00", head) + b[to:]
	case 2:
		return b[:at] + b[to:]
	}
	return strings.Replace(b, pick(r, "\r\n", " ", "C", ": "), pick(r, "\n", "", "0", "\r", "\t", "1000000"), 1+r.Intn(2))
}

// cuts: the bytes in pieces, empty ones too.
func cuts(r *rand.Rand, b string) []string {
	var out []string
	most := pick(r, 1, 3, 20, 100)
	for len(b) > 0 {
		n := min(r.Intn(most+1), len(b))
		out = append(out, b[:n])
		b = b[n:]
	}
	return append(out, pick(r, []string{}, []string{""})...)
}

// enough: fails if the random inputs have been too much alike.
func enough(t *testing.T, name string, n, least int) {
	t.Helper()
	if n < least {
		t.Errorf("%s: only %d, want %d", name, n, least)
	}
}
