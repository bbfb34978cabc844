package rpc_test

import (
	"bytes"
	"math/rand"
	"slices"
	"strings"
	"testing"
	"time"
	"unsafe"

	"trellis/api"
	"trellis/rpc"
)

// lent: a text whose bytes the test may write over, as nobody else does.
func lent(s string) (string, func()) {
	b := []byte(s)
	return unsafe.String(unsafe.SliceData(b), len(b)), func() { filled(b, '#') }
}

// roomy: the bytes, with others in the spare room behind them.
func roomy(s, spare string) []byte {
	return []byte(s + spare)[:len(s)]
}

// filled: all of the list's room is written into.
func filled[T any](l []T, x T) {
	l = l[:cap(l)]
	for i := range l {
		l[i] = x
	}
}

// owned: the texts in memory of their own.
func owned(l []string) []string {
	out := slices.Clone(l)
	for i := range out {
		out[i] = strings.Clone(out[i])
	}
	return out
}

// P2, P3: a frame is new memory, all of it, and keeps nothing of the body.
func TestPutMemory(t *testing.T) {
	r := rand.New(rand.NewSource(2620))
	for range 3000 {
		body := anyBody(r)
		mine, spoil := lent(body)
		got, _ := rpc.Put(mine)
		again, _ := rpc.Put(mine)
		if mine != body {
			t.Fatalf("P2: Put(%q) has changed its body", body)
		}
		spoil()
		filled(got, '!')
		if string(again) != frame(body) {
			t.Fatalf("P2: Put(%q): behind writing into another frame: %q", body, again)
		}
		put(t, body)
	}
}

// P2, P3: Take changes and keeps nothing of the bytes, and does not look into their spare room.
func TestTakeMemory(t *testing.T) {
	r := rand.New(rand.NewSource(2621))
	for i := range 5000 {
		b := frame(anyBody(r)) + anyBody(r)
		if i%2 == 0 {
			b = spoilt(r, b)
		}
		at := r.Intn(len(b) + 1)
		mine, want := roomy(b[:at], b[at:]), plainTake(b[:at])
		body, n, code := rpc.Take(mine)
		if string(mine[:len(b)]) != b {
			t.Fatalf("P2: Take(%q) has changed its bytes", b)
		}
		kept := strings.Clone(body)
		filled(mine, '#')
		if got := (answer{body, n, code}); got != want || kept != body {
			t.Fatalf("P2: Take(%q): behind writing into it %v, want %v", b[:at], got, want)
		}
	}
}

// P2, P3: a buffer changes and keeps nothing of a chunk, does not look into its spare room, and does not keep what it has answered.
func TestFeedMemory(t *testing.T) {
	r := rand.New(rand.NewSource(2622))
	for i := range 3000 {
		all := anyStream(r)
		if i%2 == 0 {
			all = spoilt(r, all)
		}
		b := rpc.New()
		var got, kept [][]string
		var flat []string
		for _, chunk := range cuts(r, all) {
			mine := roomy(chunk, frame("spare"))
			bodies, _ := b.Feed(mine)
			if string(mine[:cap(mine)])[:len(chunk)+len(frame("spare"))] != chunk+frame("spare") {
				t.Fatalf("P2: Feed(%q) has changed it", chunk)
			}
			flat = append(flat, owned(bodies)...)
			filled(mine, '#')
			got, kept = append(got, bodies), append(kept, owned(bodies))
			if r.Intn(2) == 0 {
				filled(bodies, "wiped")
				filled(kept[len(kept)-1], "wiped")
			}
		}
		for i := range got {
			if !slices.Equal(got[i], kept[i]) {
				t.Fatalf("P2: of %q: an answer has become %q, was %q", all, got[i], kept[i])
			}
		}
		if want := plainFeed(all); !slices.Equal(flat, want.bodies) || b.Waiting() != want.waits {
			t.Fatalf("P2, P3: of %q: %q, %d wait, want %v", all, flat, b.Waiting(), want)
		}
	}
}

// P3: two buffers know nothing of each other.
func TestTwoBuffers(t *testing.T) {
	r := rand.New(rand.NewSource(2623))
	for range 2000 {
		streams := [2]string{anyStream(r), spoilt(r, anyStream(r))}
		buffers := [2]*rpc.Buffer{rpc.New(), rpc.New()}
		var bodies [2][]string
		var codes [2]api.Errno
		left := streams
		for left[0] != "" || left[1] != "" {
			i := r.Intn(2)
			n := min(r.Intn(9), len(left[i]))
			got, code := buffers[i].Feed([]byte(left[i][:n]))
			bodies[i], codes[i] = append(bodies[i], got...), code
			left[i] = left[i][n:]
		}
		for i, b := range buffers {
			got := told{bodies[i], codes[i], b.Waiting()}
			if want := plainFeed(streams[i]); !got.alike(want) {
				t.Fatalf("P3: of %q, with another buffer: %v, want %v", streams[i], got, want)
			}
		}
	}
}

// soon: fails if a call takes long.
func soon(t *testing.T, name string, call func()) {
	t.Helper()
	done := make(chan bool)
	go func() { defer close(done); call() }()
	select {
	case <-done:
	case <-time.After(time.Minute):
		t.Fatalf("P1: %s: no end", name)
	}
}

// P1: many bytes in one chunk, and in many.
func TestHuge(t *testing.T) {
	great := frame(strings.Repeat("x", api.MaxFrame))
	small := strings.Repeat(frame(""), 1<<18)
	for name, all := range map[string]string{
		"the greatest frame": great,
		"small frames":       small,
		"a few great frames": great + great + small + great[:len(great)-1],
		"digits":             head + strings.Repeat("1", 1<<22),
		"zeros":              head + strings.Repeat("0", 1<<22),
		"no head":            strings.Repeat("Content-Length", 1<<18),
	} {
		var want told
		soon(t, name+" in one chunk", func() { want = feedAll(t, []string{all}) })
		soon(t, name+" byte by byte", func() {
			var chunks []string
			for i := range len(all) {
				chunks = append(chunks, all[i:i+1])
			}
			if got := feedAll(t, chunks); !got.alike(want) {
				t.Errorf("26.6: %s byte by byte: %d bodies, %d, %d wait, want %d, %d, %d", name, len(got.bodies), got.code, got.waits, len(want.bodies), want.code, want.waits)
			}
		})
		if (want.code == api.OK) == (name == "digits" || name == "zeros" || name == "no head") {
			t.Errorf("26.3: %s: %d", name, want.code)
		}
	}
}

// P1: any bytes, and none.
func TestAnything(t *testing.T) {
	r := rand.New(rand.NewSource(2624))
	for range 20000 {
		b := make([]byte, r.Intn(30))
		r.Read(b)
		sameTake(t, string(b))
		sameTake(t, head+string(b))
		sameTake(t, head+"9\r\n\r\n"+string(b))
	}
	if body, n, code := rpc.Take(nil); body != "" || n != 0 || code != api.ErrMore {
		t.Errorf("26.2: Take of no list: %q, %d, %d", body, n, code)
	}
	b := rpc.New()
	if bodies, code := b.Feed(nil); len(bodies) > 0 || code != api.OK || b.Waiting() != 0 {
		t.Errorf("26.3: Feed of no list: %q, %d", bodies, code)
	}
	if !bytes.Equal(put(t, "\xff\xc3"), []byte(frame("\xff\xc3"))) {
		t.Error("26.1: bytes that are no UTF-8")
	}
}
