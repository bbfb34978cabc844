package rpc_test

import (
	"math/rand"
	"slices"
	"strings"
	"testing"

	"trellis/api"
	"trellis/rpc"
)

// feed: 26.3, 26.4 of a chunk.
func feed(t *testing.T, b *rpc.Buffer, chunk string, want told) {
	t.Helper()
	bodies, code := b.Feed([]byte(chunk))
	if got := (told{bodies, code, b.Waiting()}); !got.alike(want) {
		t.Fatalf("26.3, 26.4: Feed(%.200q) = %v, want %v", chunk, got, want)
	}
}

// 26.3, 26.4: the chapter's examples, one behind the other.
func TestFeed(t *testing.T) {
	b := rpc.New()
	whole := frame("{}")
	if b.Waiting() != 0 {
		t.Errorf("26.3: in a new buffer %d bytes wait", b.Waiting())
	}
	feed(t, b, "", told{})
	feed(t, b, whole[:10], told{waits: 10})
	feed(t, b, "", told{waits: 10})
	feed(t, b, whole[10:]+"C", told{bodies: []string{"{}"}, waits: 1})
	feed(t, b, "x", told{code: api.ErrHead})
	feed(t, b, "", told{code: api.ErrHead})
	stays(t, b, api.ErrHead)
}

// 26.3: several frames in one chunk, and the error behind them.
func TestFeedMany(t *testing.T) {
	three := frame("a") + frame("") + frame("\r\n")
	all := []string{"a", "", "\r\n"}
	for _, c := range []struct {
		behind string
		want   told
	}{
		{"", told{bodies: all}},
		{head + "1\r\n\r\n", told{bodies: all, waits: 21}},
		{"x" + frame("b"), told{bodies: all, code: api.ErrHead}},
		{frame("b") + head + "2097153\r\n\r\n" + frame("c"), told{bodies: append(all[:3:3], "b"), code: api.ErrFrame}},
		{head + "00", told{bodies: all, code: api.ErrHead}},
	} {
		feed(t, rpc.New(), three+c.behind, c.want)
		b := rpc.New()
		feed(t, b, three[:5], told{waits: 5})
		feed(t, b, three[5:]+c.behind, c.want)
		if c.want.code != api.OK {
			stays(t, b, c.want.code)
			continue
		}
		feed(t, b, "", told{waits: c.want.waits})
		feed(t, b, strings.Repeat("z", c.want.waits/21)+frame("d"), told{bodies: append([]string{"z"}[:c.want.waits/21], "d")})
	}
}

// 26.3: each error is met with the byte at which it stands, not earlier and not later.
func TestFeedErrors(t *testing.T) {
	for _, c := range []struct {
		ahead string
		last  string
		code  api.Errno
	}{
		{"", "x", api.ErrHead},
		{"Content-Length:", "0", api.ErrHead},
		{head, "\r", api.ErrHead},
		{head + "0", "1", api.ErrHead},
		{head + "12", "\n", api.ErrHead},
		{head + "2\r\n\r", "\r", api.ErrHead},
		{head + "209715", "3", api.ErrFrame},
		{head + "2097152", "0", api.ErrFrame},
	} {
		b := rpc.New()
		feed(t, b, frame("{}"), told{bodies: []string{"{}"}})
		for i := range len(c.ahead) {
			feed(t, b, c.ahead[i:i+1], told{waits: i + 1})
		}
		feed(t, b, c.last, told{code: c.code})
		stays(t, b, c.code)
	}
}

// 26.4: the most that can wait: all but the last byte of the greatest frame.
func TestWaitingMost(t *testing.T) {
	body := strings.Repeat("x", api.MaxFrame)
	all := frame(body)
	most := len(all) - 1
	if most > api.MaxFrame+27 {
		t.Fatalf("26.4: %d bytes", most)
	}
	b := rpc.New()
	feed(t, b, all[:most], told{waits: most})
	feed(t, b, "x"+all[:most], told{bodies: []string{body}, waits: most})
	feed(t, b, "x", told{bodies: []string{body}})
	feed(t, b, all+all+all[:most], told{bodies: []string{body, body}, waits: most})
	feed(t, b, "xx", told{bodies: []string{body}, code: api.ErrHead})
}

// 26.3, 26.6: however bytes are cut into chunks, what is answered is what one Feed of all of them answers.
func TestPieces(t *testing.T) {
	r := rand.New(rand.NewSource(266))
	codes, waits, several := map[api.Errno]int{}, 0, 0
	for i := range 20000 {
		b := anyStream(r)
		switch i % 4 {
		case 0:
			b = spoilt(r, b) + anyStream(r)
		case 1:
			b += spoilt(r, frame(anyBody(r)))
		}
		want := plainFeed(b)
		chunks := cuts(r, b)
		if got := feedAll(t, chunks); !got.alike(want) {
			t.Fatalf("26.6: of %q: %v, want %v", chunks, got, want)
		}
		if got := feedAll(t, []string{b}); !got.alike(want) {
			t.Fatalf("26.3: of %q: %v, want %v", b, got, want)
		}
		codes[want.code]++
		waits += min(want.waits, 1)
		several += len(want.bodies) / 2
	}
	enough(t, "OK", codes[api.OK], 5000)
	enough(t, "ErrHead", codes[api.ErrHead], 2000)
	enough(t, "ErrFrame", codes[api.ErrFrame], 100)
	enough(t, "bytes wait", waits, 1000)
	enough(t, "frames", several, 5000)
}

// 26.6: one stream, cut at each two places.
func TestTwoCuts(t *testing.T) {
	for _, b := range []string{
		frame("{}") + frame("") + frame("é\r\n012345") + "Cont",
		frame("") + head + "2097153\r\n\r\n" + frame("x"),
		frame("a") + frame("b") + head + "1\r\n\rz" + frame("c"),
	} {
		want := plainFeed(b)
		for i := range len(b) + 1 {
			for j := i; j <= len(b); j++ {
				if got := feedAll(t, []string{b[:i], b[i:j], b[j:]}); !got.alike(want) {
					t.Fatalf("26.6: %q cut at %d and %d: %v, want %v", b, i, j, got, want)
				}
			}
		}
	}
}

// 26.4: what waits is never more than what one frame that is not whole may have, and each Feed tells what has become whole.
func TestWaiting(t *testing.T) {
	r := rand.New(rand.NewSource(264))
	for range 300 {
		all := anyStream(r)
		b := rpc.New()
		var bodies []string
		fed := ""
		for _, chunk := range cuts(r, all) {
			got, code := b.Feed([]byte(chunk))
			bodies = append(bodies, got...)
			fed += chunk
			want := plainFeed(fed)
			if code != api.OK || b.Waiting() != want.waits || !slices.Equal(bodies, want.bodies) {
				t.Fatalf("26.3, 26.4: behind %q: %q, %d, %d wait, want %v", fed, bodies, code, b.Waiting(), want)
			}
		}
	}
}
