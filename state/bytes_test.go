package state_test

import (
	"math/rand"
	"reflect"
	"slices"
	"strings"
	"testing"

	"trellis/api"
	"trellis/state"
)

func TestEncodeExamples(t *testing.T) {
	for _, c := range []struct {
		s    api.State
		want string
	}{
		{state.Start(), "\x53\x00\x00\x00\x00\x00"},
		{sample(), "\x53\x02\x02\x04\x04\x01\x03\x45\x4f\x46\x01\x01\x01\x27\x80\x02"},
		{api.State{Indents: []int{127, 128, 16383, 16384, 65536}, Pending: 126}, "S\x05\x7f\x80\x01\xff\x7f\x80\x80\x01\x80\x80\x04\x7f\x00\x00\x00"},
		{api.State{Pending: 127, Flags: 1 << 15}, "S\x00\x80\x01\x00\x00\x80\x80\x02"},
		{api.State{Pending: 65536, Frames: []api.Frame{{Mode: 15, Delim: "\n"}, {}}}, "S\x00\x81\x80\x04\x00\x02\x0f\x01\n\x00\x00\x00"},
	} {
		if b, code := state.Encode(c.s); b != c.want || code != api.OK {
			t.Errorf("6.6: Encode(%+v) = %q, %d, want %q", c.s, b, code, c.want)
		}
		if s, code := state.Decode(c.want); code != api.OK || !alike(s, c.s) {
			t.Errorf("6.7: Decode(%q) = %+v, %d", c.want, s, code)
		}
	}
}

func refused(t *testing.T, b string) {
	t.Helper()
	if s, code := state.Decode(b); code != api.ErrBlob || !reflect.DeepEqual(s, api.State{}) {
		t.Errorf("6.7, P4: Decode(%q) = %+v, %d", b, s, code)
	}
}

func TestDecodeExamples(t *testing.T) {
	d := strings.Repeat("d", 17)
	for _, b := range []string{
		"\x53\x00\x00\x00\x00", "\x53\x00\x00\x00\x00\x80\x00", "\x53\x01\x00\x00\x00\x00\x00", "\x53\x00\x00\x00\x00\x00\x00",
		"", "S", "s\x00\x00\x00\x00\x00", "\x00\x00\x00\x00\x00", "\xd3\x00\x00\x00\x00\x00",
		"S\x02\x04\x04\x00\x00\x00\x00", "S\x02\x04\x03\x00\x00\x00\x00", "S\x01\x81\x80\x04\x00\x00\x00\x00", "S\x21" + d + d[:16] + "\x00\x00\x00\x00",
		"S\x00\x82\x80\x04\x00\x00\x00", "S\x00\x80\x80\x84\x00\x00\x00\x00",
		"S\x00\x00\x01\x00\x00\x00", "S\x00\x00\x01\x01\n\x00\x00", "S\x00\x00\x01\x11" + d + "\x00\x00", "S\x00\x00\x09" + strings.Repeat("\x01q", 9) + "\x00\x00", "S\x00\x00\x01\x03ab",
		"S\x00\x00\x00\x01\x10\x00\x00", "S\x00\x00\x00\x01\x00\x11" + d + "\x00", "S\x00\x00\x00\x11" + strings.Repeat("\x00\x00", 17) + "\x00", "S\x00\x00\x00\x01\x00",
		"S\x00\x00\x00\x00\x80\x80\x04", "S\x00\x00\x00\x00\xff\xff\x07",
		"S\x80\x00\x00\x00\x00\x00", "S\x00\x80\x80\x00\x00\x00\x00", "S\x00\x00\x00\x00" + strings.Repeat("\x80", 10) + "\x01", "S" + strings.Repeat("\x80", 9) + "\x01\x00\x00\x00\x00", "S\xff\xff\xff\xff\xff\xff\xff\xff\xff\x01",
		strings.Repeat("\x80", 1<<20), "S" + strings.Repeat("\xff", 1<<20), strings.Repeat("S", 1<<20), "S" + strings.Repeat("\x00", 1<<20),
	} {
		refused(t, b)
	}
}

// told: the state whose bytes b is, found by reading each number however it is written, and writing what was read.
func told(b string) (api.State, bool) {
	at := 1
	number := func() int {
		n := 0
		for scale := 1; at < len(b); scale = min(scale*128, 1<<28) {
			at++
			if n += int(b[at-1]%128) * scale; b[at-1] < 128 {
				break
			}
		}
		return n
	}
	text := func() string {
		n := number()
		from := min(at, len(b))
		at = min(from+n, len(b))
		return b[from:at]
	}
	var s api.State
	for range min(number(), 33) {
		s.Indents = append(s.Indents, number())
	}
	s.Pending = number() - 1
	for range min(number(), 9) {
		s.Queue = append(s.Queue, text())
	}
	for range min(number(), 17) {
		s.Frames = append(s.Frames, api.Frame{Mode: number(), Delim: text()})
	}
	s.Flags = uint16(number())
	return s, plainShaped(s) && plainEncode(s) == b
}

// sameDecode: 6.7 and 6.8 of any bytes.
func sameDecode(t *testing.T, b string) bool {
	t.Helper()
	want, ok := told(b)
	got, code := state.Decode(b)
	if !ok {
		if code != api.ErrBlob || !reflect.DeepEqual(got, api.State{}) {
			t.Fatalf("6.7: Decode(%q) = %+v, %d, but it is no state's", b, got, code)
		}
		return false
	}
	if code != api.OK || !alike(got, want) {
		t.Fatalf("6.7: Decode(%q) = %+v, %d, want %+v", b, got, code, want)
	}
	if again, code := state.Encode(got); code != api.OK || again != b {
		t.Fatalf("6.8: %q comes back as %q, %d", b, again, code)
	}
	return true
}

// 6.7: all short rows of some bytes.
func TestDecodeAllShort(t *testing.T) {
	const over = "\x00\x01\x02\n\x80\x81\xff"
	states := 0
	var grow func(b string, left int)
	grow = func(b string, left int) {
		if sameDecode(t, b) {
			states++
		}
		for i := 0; i < len(over) && left > 0; i++ {
			grow(b+over[i:i+1], left-1)
		}
	}
	grow("S", 7)
	if states < 500 {
		t.Errorf("only %d of the rows are states", states)
	}
}

// 6.6 to 6.8: states of all kinds, their bytes, and what comes of these when something is changed.
func TestBytesRandom(t *testing.T) {
	r := rand.New(rand.NewSource(67))
	for range 5000 {
		s := randomState(r)
		b, code := state.Encode(s)
		if code != api.OK || b != plainEncode(s) {
			t.Fatalf("6.6: Encode(%+v) = %q, %d", s, b, code)
		}
		if got, code := state.Decode(b); code != api.OK || !alike(got, s) || !state.Same(got, s) {
			t.Fatalf("6.8: %+v comes back as %+v, %d", s, got, code)
		}
		for range 12 {
			sameDecode(t, spoiled(r, b))
		}
	}
	for _, s := range []api.State{full(), sample(), state.Start()} {
		b, _ := state.Encode(s)
		sameDecode(t, b)
		for k := range b {
			refused(t, b[:k])
		}
		for i := range 256 {
			refused(t, b+string([]byte{byte(i)}))
		}
	}
}

// spoiled: the bytes with one of them other, gone, or one more.
func spoiled(r *rand.Rand, b string) string {
	at := r.Intn(len(b))
	some := string([]byte{[]byte{0, 1, 2, 15, 16, 17, 127, 128, 129, 255, byte(r.Intn(256))}[r.Intn(11)]})
	switch r.Intn(4) {
	case 0:
		return b[:at] + b[at+1:]
	case 1:
		return b[:at] + some + b[at:]
	case 2: // a number, or a byte of a delimiter, as two groups
		return b[:at] + string([]byte{b[at] | 128}) + some + b[at+1:]
	}
	return b[:at] + some + b[at+1:]
}

func TestEncodeOdd(t *testing.T) {
	r := rand.New(rand.NewSource(68))
	refusals := 0
	for range 10000 {
		s := oddState(r)
		b, code := state.Encode(s)
		switch {
		case plainShaped(s) && (code != api.OK || b != plainEncode(s)):
			t.Fatalf("6.6: Encode(%+v) = %q, %d", s, b, code)
		case !plainShaped(s):
			if refusals++; b != "" || code != api.ErrBlob {
				t.Fatalf("6.6, P4: Encode(%+v) = %q, %d", s, b, code)
			}
		}
	}
	if refusals < 2000 {
		t.Errorf("only %d of the states are not shaped", refusals)
	}
}

// 6.8: of many states no two that differ have the same bytes, and none's bytes begin another's: sorted, they would stand side by side.
func TestBytesApart(t *testing.T) {
	r := rand.New(rand.NewSource(69))
	type written struct {
		b string
		s api.State
	}
	all := []written{{plainEncode(full()), full()}}
	for range 20000 {
		s := randomState(r)
		if r.Intn(2) == 0 { // small ones, of which there are few
			s = api.State{Pending: r.Intn(3) - 1, Flags: uint16(r.Intn(3))}
			for w := range r.Intn(3) {
				s.Indents = append(s.Indents, w+1)
			}
			for range r.Intn(2) {
				s.Queue = append(s.Queue, "\x00\x01"[r.Intn(2):])
			}
			for range r.Intn(3) {
				s.Frames = append(s.Frames, api.Frame{Mode: r.Intn(2), Delim: "\x00\x01"[r.Intn(3):]})
			}
		}
		b, code := state.Encode(s)
		if code != api.OK {
			t.Fatalf("6.6: Encode(%+v): %d", s, code)
		}
		all = append(all, written{b, s})
	}
	slices.SortStableFunc(all, func(a, b written) int { return strings.Compare(a.b, b.b) })
	twice := 0
	for i := 1; i < len(all); i++ {
		a, b := all[i-1], all[i]
		switch {
		case state.Same(a.s, b.s) != (a.b == b.b):
			t.Fatalf("6.8: %+v has the bytes %q, %+v has %q", a.s, a.b, b.s, b.b)
		case a.b == b.b:
			twice++
		case strings.HasPrefix(b.b, a.b):
			t.Fatalf("6.8: %q begins %q", a.b, b.b)
		}
	}
	if twice < 100 {
		t.Errorf("only %d states came twice", twice)
	}
}

// P2, P3: bytes and states share no lists.
func TestBytesMemory(t *testing.T) {
	s := roomy(sample())
	before := rooms(s)
	b, _ := state.Encode(s)
	if !reflect.DeepEqual(rooms(s), before) {
		t.Error("P2: Encode changes what was handed in")
	}
	first, _ := state.Decode(b)
	second, _ := state.Decode(b)
	if !reflect.DeepEqual(first, second) {
		t.Errorf("P3: Decode twice: %+v, %+v", first, second)
	}
	scribble(first)
	scribble(s)
	if !alike(second, sample()) || b != plainEncode(sample()) {
		t.Error("P2: what was handed out hangs on other memory")
	}
	if apart(t, b, second); len(second.Queue) != 1 || len(second.Frames) != 1 {
		t.Errorf("6.7: Decode(%q) = %+v", b, second)
	}
	a, z := state.Start(), state.Start()
	a.Indents = append(a.Indents, 3)
	scribble(a)
	if !alike(z, state.Start()) {
		t.Error("P2: two starts share memory")
	}
}
