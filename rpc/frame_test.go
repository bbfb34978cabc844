package rpc_test

import (
	"math/rand"
	"strconv"
	"strings"
	"testing"

	"trellis/api"
	"trellis/rpc"
)

// put: 26.1 of a body that is taken.
func put(t *testing.T, body string) []byte {
	t.Helper()
	got, code := rpc.Put(body)
	if code != api.OK || string(got) != frame(body) {
		t.Fatalf("26.1: Put(%.200q) = %.200q, %d", body, got, code)
	}
	return got
}

// 26.1: the chapter's example, and lengths about each further digit.
func TestPut(t *testing.T) {
	if got := put(t, "{}"); string(got) != "Content-Length: 2\r\n\r\n{}" || len(got) != 23 {
		t.Errorf("26.1: Put({}) = %q", got)
	}
	if got := put(t, ""); string(got) != "Content-Length: 0\r\n\r\n" {
		t.Errorf("26.1: Put of nothing: %q", got)
	}
	for n := 1; n <= api.MaxFrame; n *= 10 {
		for _, m := range []int{n - 1, n, n + 1, 2 * n} {
			put(t, strings.Repeat("é\x00\r\n", m/5+1)[:m])
		}
	}
	for b := range 256 {
		put(t, string([]byte{byte(b)}))
	}
}

// 26.1: the greatest body, in bytes and not in runes, and greater ones.
func TestPutGreat(t *testing.T) {
	most := strings.Repeat("é", api.MaxFrame/2)
	if got := put(t, most); len(got) != api.MaxFrame+27 {
		t.Errorf("26.1: the greatest frame has %d bytes", len(got))
	}
	put(t, most[1:])
	for _, more := range []string{"x", "é", most} {
		if got, code := rpc.Put(most + more); len(got) > 0 || code != api.ErrFrame {
			t.Errorf("26.1: %d bytes more: %d, %d bytes", len(more), code, len(got))
		}
	}
}

// 26.2: the chapter's examples.
func TestTake(t *testing.T) {
	for _, c := range []struct {
		b    string
		want answer
	}{
		{frame("{}") + "x", answer{"{}", 23, api.OK}},
		{"", answer{code: api.ErrMore}},
		{"Content-", answer{code: api.ErrMore}},
		{"content", answer{code: api.ErrHead}},
		{head + "02", answer{code: api.ErrHead}},
		{head + "x", answer{code: api.ErrHead}},
		{head + "\r", answer{code: api.ErrHead}},
		{head + "2097153", answer{code: api.ErrFrame}},
		{head + "0\r\r", answer{code: api.ErrHead}},
		{head + "0\r\n\r\n", answer{"", 21, api.OK}},
		{head, answer{code: api.ErrMore}},
		{head + "2097152", answer{code: api.ErrMore}},
		{head + "2097152\r\n\r\nx", answer{code: api.ErrMore}},
		{head + "20971520", answer{code: api.ErrFrame}},
		{head + "9999999\r", answer{code: api.ErrFrame}},
		{head + "2097153x", answer{code: api.ErrFrame}},
		{head + "209715x", answer{code: api.ErrHead}},
		{head + "18446744073709551617\r\n\r\nx", answer{code: api.ErrFrame}},
		{head + "2;charset=utf-8\r\n\r\n{}", answer{code: api.ErrHead}},
		{head + "2\r\nContent-Type: x\r\n\r\n{}", answer{code: api.ErrHead}},
		{"Content-Type: x\r\n" + frame("{}"), answer{code: api.ErrHead}},
		{"Content-Length:2\r\n\r\n{}", answer{code: api.ErrHead}},
		{head + " 2\r\n\r\n{}", answer{code: api.ErrHead}},
		{head + "+2\r\n\r\n{}", answer{code: api.ErrHead}},
		{head + "2\n\n{}", answer{code: api.ErrHead}},
		{"\r\n" + frame("{}"), answer{code: api.ErrHead}},
		{"\ufeff" + frame("{}"), answer{code: api.ErrHead}},
	} {
		if got := take(c.b); got != c.want {
			t.Errorf("26.2: Take(%q) = %v, want %v", c.b, got, c.want)
		}
		sameTake(t, c.b)
	}
}

// 26.2: another byte, each one at each place of a frame, with more behind it or nothing.
func TestTakeOtherByte(t *testing.T) {
	for _, body := range []string{"", "{}", strings.Repeat("x", 12)} {
		b := frame(body)
		for at := range len(b) - len(body) {
			for other := range 256 {
				spoilt := b[:at] + string([]byte{byte(other)})
				for _, all := range []string{spoilt, spoilt + b[at+1:], spoilt + b[at:], spoilt + b[at+1:] + b} {
					sameTake(t, all)
				}
			}
		}
	}
}

// 26.2: all short rows of what means something, behind the first 16 bytes.
func TestTakeShort(t *testing.T) {
	codes := map[api.Errno]int{}
	var all func(b string, left int)
	all = func(b string, left int) {
		codes[sameTake(t, b).code]++
		if left == 0 {
			return
		}
		for _, c := range "\r\n0129/:" {
			all(b+string(c), left-1)
		}
	}
	all(head, 5)
	all(head+"0\r\n", 4)
	all(head+"3\r\n\r", 4)
	all(head+"209715", 3)
	for _, code := range []api.Errno{api.OK, api.ErrMore, api.ErrHead, api.ErrFrame} {
		enough(t, "Take answers "+strconv.Itoa(int(code)), codes[code], 8)
	}
}

// 26.2: numbers about the greatest one, and such as are it in few bits.
func TestTakeNumbers(t *testing.T) {
	for n := api.MaxFrame - 2000; n <= api.MaxFrame; n++ {
		sameTake(t, head+strconv.Itoa(n))
		sameTake(t, head+strconv.Itoa(n)+"\r\n\r\nx")
	}
	for n := api.MaxFrame + 1; n < api.MaxFrame+2000; n++ {
		if got := sameTake(t, head+strconv.Itoa(n)); got.code != api.ErrFrame {
			t.Fatalf("26.2: %d bytes: %d", n, got.code)
		}
	}
	for _, b := range []string{"4294967298", "18446744073709551618", "36893488147419103234", "340282366920938463463374607431768211458"} {
		for _, behind := range []string{"", "\r\n\r\n{}", "x"} {
			if got := sameTake(t, head+b+behind); got.code != api.ErrFrame {
				t.Errorf("26.2: %s bytes: %d", b, got.code)
			}
		}
	}
}

// 26.2: random frames, with bytes changed.
func TestTakeRandom(t *testing.T) {
	r := rand.New(rand.NewSource(262))
	codes := map[api.Errno]int{}
	for i := range 30000 {
		b := frame(anyBody(r)) + pick(r, "", "x", anyBody(r))
		if i%3 > 0 {
			b = spoilt(r, b)
		}
		codes[sameTake(t, b).code]++
	}
	enough(t, "frames", codes[api.OK], 10000)
	enough(t, "beginnings", codes[api.ErrMore], 1000)
	enough(t, "no heads", codes[api.ErrHead], 5000)
	enough(t, "too great", codes[api.ErrFrame], 100)
}

// 26.5: of bodies, what stands behind them, and shorter beginnings.
func TestBack(t *testing.T) {
	r := rand.New(rand.NewSource(265))
	for range 2000 {
		body := anyBody(r)
		b := string(put(t, body))
		for _, behind := range []string{"", "\x00", "0", "\r\n", b, anyBody(r)} {
			if got, want := take(b+behind), (answer{body, len(b), api.OK}); got != want {
				t.Fatalf("26.5: Take(%q) = %v, want %v", b+behind, got, want)
			}
		}
		for n := range len(b) {
			if got := take(b[:n]); got != (answer{code: api.ErrMore}) {
				t.Fatalf("26.5: Take(%q) = %v", b[:n], got)
			}
		}
	}
}

// 26.5: of the greatest body.
func TestBackGreat(t *testing.T) {
	body := strings.Repeat("\r\n\x00é", api.MaxFrame/5+1)[:api.MaxFrame]
	b := string(put(t, body))
	for _, behind := range []string{"", "x", b} {
		if got := take(b + behind); got != (answer{body, len(b), api.OK}) {
			t.Errorf("26.5: the greatest body, with %d bytes behind it: %d, %d", len(behind), got.n, got.code)
		}
	}
	for _, n := range []int{len(b) - 1, len(b) - 2, len(b) / 2, 28, 27, 26} {
		if got := take(b[:n]); got != (answer{code: api.ErrMore}) {
			t.Errorf("26.5: %d bytes of the greatest frame: %d, %d", n, got.n, got.code)
		}
	}
}

// 26.5: what is taken is put as the same bytes: there is one frame for each body.
func TestOneFrame(t *testing.T) {
	r := rand.New(rand.NewSource(2650))
	taken := 0
	for range 30000 {
		b := spoilt(r, frame(anyBody(r))+anyBody(r))
		got := take(b)
		if got.code != api.OK {
			continue
		}
		taken++
		if again := string(put(t, got.body)); again != b[:got.n] {
			t.Fatalf("26.5: Take(%q) = %v, but its frame is %q", b, got, again)
		}
	}
	enough(t, "frames", taken, 5000)
}
