package edit_test

import (
	"math"
	"math/rand"
	"slices"
	"strings"
	"testing"
	"unsafe"

	"trellis/api"
	"trellis/edit"
)

func of(at, del int, ins string) api.Edit { return api.Edit{At: at, Del: del, Ins: ins} }

// numbers: what a call may be handed as a place or a count of a text of n bytes.
func numbers(n int) []int {
	out := []int{math.MinInt, math.MinInt + 1, -1 << 32, -n - 1, -1, n + 1, n + 2, 1 << 32, math.MaxInt - 1, math.MaxInt}
	for at := range n + 1 {
		out = append(out, at)
	}
	return out
}

// edits: all kinds of edits of a text of n bytes, clamped ones and others.
func edits(n int, ins ...string) []api.Edit {
	var out []api.Edit
	for _, at := range numbers(n) {
		for _, del := range numbers(n) {
			for _, s := range ins {
				out = append(out, of(at, del, s))
			}
		}
	}
	return out
}

func full() string { return strings.Repeat("a", api.MaxText) }

// plain: the clamped edit, by the document's words.
func plain(n int, e api.Edit) api.Edit {
	if e.At < 0 {
		e.At = 0
	}
	if e.At > n {
		e.At = n
	}
	if e.Del < 0 {
		e.Del = 0
	}
	if e.Del > n-e.At {
		e.Del = n - e.At
	}
	return e
}

// mark: a byte of a text that is followed through edits: where it stood in the first one (-1: an edit has brought it), which it is.
type mark struct {
	from int
	b    byte
}

func marks(text string) []mark {
	var out []mark
	for i := range len(text) {
		out = append(out, mark{i, text[i]})
	}
	return out
}

// done: the marks behind an edit, moved one by one.
func done(l []mark, e api.Edit) []mark {
	e = plain(len(l), e)
	var out []mark
	for i := 0; i <= len(l); i++ {
		if i == e.At {
			for j := range len(e.Ins) {
				out = append(out, mark{-1, e.Ins[j]})
			}
		}
		if i < len(l) && (i < e.At || i-e.At >= e.Del) {
			out = append(out, l[i])
		}
	}
	return out
}

func text(l []mark) string {
	var b []byte
	for _, m := range l {
		b = append(b, m.b)
	}
	return string(b)
}

func TestExamples(t *testing.T) {
	hippo := of(1, 3, "ipp")
	if got, code := edit.Apply("hello", hippo); got != "hippo" || code != api.OK {
		t.Errorf("3.2: %q, %d", got, code)
	}
	if got, code, n := edit.All("ab", []api.Edit{{Del: 1}, {Del: 9, Ins: "xyz"}}); got != "xyz" || code != api.OK || n != 2 {
		t.Errorf("3.3: %q, %d, %d", got, code, n)
	}
	for _, c := range []struct{ got, want api.Edit }{
		{edit.Clamp(5, of(-3, 9, "x")), of(0, 5, "x")},
		{edit.Clamp(5, of(9, -1, "")), of(5, 0, "")},
		{edit.Clamp(-1, of(1, 1, "x")), api.Edit{}},
		{edit.Clamp(5, of(2, math.MaxInt, "")), of(2, 3, "")},
		{edit.Invert("hello", hippo), of(1, 3, "ell")},
		{edit.Invert("ab", of(9, 9, "c")), of(2, 1, "")},
		{edit.Between("hello", "help"), of(3, 2, "p")},
		{edit.Between("aa", "aaa"), of(2, 0, "a")},
		{edit.Between("", ""), api.Edit{}},
		{edit.Cover("abcdef", of(1, 2, "XYZ"), of(0, 2, "")), of(0, 3, "YZ")},
		{edit.Cover("abcdef", of(1, 1, ""), of(3, 1, "Q")), of(1, 4, "cdQ")},
	} {
		if c.got != c.want {
			t.Errorf("%+v, want %+v", c.got, c.want)
		}
	}
	hipps := of(1, 3, "ipps")
	for at, want := range []int{0, -1, -1, -1, 5, -1} {
		checkPlace(t, "3.5", at, want, func() (int, bool) { return edit.Map(5, hipps, at) })
	}
	for at, want := range []int{0, -1, -1, -1, -1, 4, -1} {
		checkPlace(t, "3.6", at, want, func() (int, bool) { return edit.Back(5, hipps, at) })
	}
}

// checkPlace holds an answer against the place that is wanted; -1: none.
func checkPlace(t *testing.T, promise string, at, want int, ask func() (int, bool)) {
	t.Helper()
	got, ok := ask()
	if ok != (want >= 0) || got != max(want, 0) {
		t.Fatalf("%s: at %d: %d, %v, want %d", promise, at, got, ok, want)
	}
}

func TestClamp(t *testing.T) {
	for _, n := range []int{0, 1, 2, 5} {
		for _, e := range edits(n, "", "x", "\xff\x00\n") {
			got := edit.Clamp(n, e)
			if got != plain(n, e) {
				t.Fatalf("3.1: Clamp(%d, %+v) = %+v", n, e, got)
			}
			if again := edit.Clamp(n, got); again != got {
				t.Fatalf("3.13: Clamp(%d, %+v) = %+v", n, got, again)
			}
		}
	}
	for _, e := range edits(api.MaxText/4096, "x") {
		if got := edit.Clamp(api.MaxText, e); got != plain(api.MaxText, e) {
			t.Fatalf("3.1: Clamp(MaxText, %+v) = %+v", e, got)
		}
	}
	for _, n := range []int{math.MinInt, -2, -1, api.MaxText + 1, 1 << 40, math.MaxInt} {
		for _, e := range edits(2, "", "x") {
			if got := edit.Clamp(n, e); got != (api.Edit{}) {
				t.Fatalf("3.1: Clamp(%d, %+v) = %+v", n, e, got)
			}
		}
	}
	huge := full() + "b"
	if got := edit.Clamp(3, of(9, 9, huge)); got != of(3, 0, huge) {
		t.Error("3.1: Ins is not as it is")
	}
}

// checkOne holds what is asked of one text and one edit that goes well against its bytes, followed one by one.
func checkOne(t *testing.T, was string, e api.Edit) {
	t.Helper()
	want := done(marks(was), e)
	got, code := edit.Apply(was, e)
	if code != api.OK || got != text(want) {
		t.Fatalf("3.2: Apply(%q, %+v) = %q, %d", was, e, got, code)
	}
	back, c := edit.Invert(was, e), plain(len(was), e)
	if back != of(c.At, len(e.Ins), was[c.At:c.At+c.Del]) {
		t.Fatalf("3.4: Invert(%q, %+v) = %+v", was, e, back)
	}
	if again, code := edit.Apply(got, back); again != was || code != api.OK || edit.Invert(got, back) != c {
		t.Fatalf("3.10: %q, %+v and back: %q, %d", was, e, again, code)
	}
	to := map[int]int{}
	for i, m := range want {
		if m.from >= 0 {
			to[m.from] = i
		}
	}
	for _, at := range numbers(len(was) + len(e.Ins)) {
		goes, stood := -1, -1
		if i, ok := to[at]; ok {
			goes = i
		}
		if at >= 0 && at < len(want) {
			stood = want[at].from
		}
		checkPlace(t, "3.5", at, goes, func() (int, bool) { return edit.Map(len(was), e, at) })
		checkPlace(t, "3.6", at, stood, func() (int, bool) { return edit.Back(len(was), e, at) })
	}
	checkStay(t, was, got, e)
}

// checkStay: what 3.9 says of an edit that goes well.
func checkStay(t *testing.T, was, got string, e api.Edit) {
	t.Helper()
	last := -1
	for at := range len(was) {
		to, ok := edit.Map(len(was), e, at)
		if !ok {
			continue
		}
		if back, ok := edit.Back(len(was), e, to); to <= last || got[to] != was[at] || !ok || back != at {
			t.Fatalf("3.9: %q, %+v: the byte %d goes to %d, and back to %d", was, e, at, to, back)
		}
		last = to
	}
	var fresh []byte
	for at := range len(got) {
		from, ok := edit.Back(len(was), e, at)
		if !ok {
			fresh = append(fresh, got[at])
			continue
		}
		if to, ok := edit.Map(len(was), e, from); !ok || to != at {
			t.Fatalf("3.9: %q, %+v: the byte %d stood at %d, and goes to %d", was, e, at, from, to)
		}
	}
	if string(fresh) != e.Ins {
		t.Fatalf("3.9: %q, %+v: new bytes %q", was, e, fresh)
	}
}

func TestOneEdit(t *testing.T) {
	for _, was := range []string{"", "a", "ab", "aa", "a\nb\xff", "abcde", "\x00\xe2\x82\xac"} {
		for _, e := range edits(len(was), "", "a", "xyz", "\xff\n", "é") {
			checkOne(t, was, e)
		}
	}
}

// Every call answers of an edit what it answers of the clamped one.
func TestClampedOrNot(t *testing.T) {
	const was = "abcd"
	for _, e := range edits(len(was), "", "xy") {
		c := edit.Clamp(len(was), e)
		one, code := edit.Apply(was, e)
		two, codeC := edit.Apply(was, c)
		all, codeAll, n := edit.All(was, []api.Edit{e})
		if one != two || code != codeC || edit.Invert(was, e) != edit.Invert(was, c) || all != two || codeAll != code || n != 1 {
			t.Fatalf("3.13: Apply, Invert or All of %+v and %+v", e, c)
		}
		for _, at := range numbers(len(was) + 2) {
			m, ok := edit.Map(len(was), e, at)
			mc, okC := edit.Map(len(was), c, at)
			b, okB := edit.Back(len(was), e, at)
			bc, okBC := edit.Back(len(was), c, at)
			if m != mc || ok != okC || b != bc || okB != okBC {
				t.Fatalf("3.13: Map or Back of %+v and %+v at %d", e, c, at)
			}
		}
		for _, b := range edits(len(one), "", "q") {
			clampedB := edit.Clamp(len(one), b)
			if edit.Cover(was, e, b) != edit.Cover(was, c, clampedB) {
				t.Fatalf("3.13: Cover of %+v, %+v", e, b)
			}
		}
	}
}

func TestBigTexts(t *testing.T) {
	most := full()
	for _, e := range []api.Edit{{}, {At: math.MaxInt, Del: math.MaxInt}, {At: 3, Del: 2, Ins: "bb"}, {Del: api.MaxText, Ins: most}, {At: 7, Del: 1}, {At: -1, Del: 1, Ins: "c"}} {
		got, code := edit.Apply(most, e)
		c := plain(len(most), e)
		if want := most[:c.At] + c.Ins + most[c.At+c.Del:]; got != want || code != api.OK {
			t.Errorf("3.2: an edit of a full text at %d: %d bytes, %d", e.At, len(got), code)
		}
		back := edit.Invert(most, e)
		if again, code := edit.Apply(got, back); again != most || code != api.OK {
			t.Errorf("3.10: an edit of a full text at %d, and back: %d bytes, %d", e.At, len(again), code)
		}
	}
	if got, code := edit.Apply("", api.Edit{Ins: most}); got != most || code != api.OK {
		t.Error("3.2: a full text at once", len(got), code)
	}
	bad := []struct {
		was string
		e   api.Edit
	}{
		{most, of(0, 0, "b")}, {most, of(math.MaxInt, math.MaxInt, "b")}, {most, of(4, 2, "bbb")}, {most, of(0, math.MinInt, "b")},
		{most + "a", api.Edit{}}, {most + "a", of(0, 1, "")}, {most + "a", of(0, math.MaxInt, "")},
		{"", of(0, 0, most+"a")}, {"a", of(1, 0, most)}, {most, of(0, 1, most)},
	}
	for _, c := range bad {
		if got, code := edit.Apply(c.was, c.e); got != "" || code != api.ErrBig {
			t.Errorf("3.2: %d bytes, at %d, -%d, +%d: %d bytes, %d", len(c.was), c.e.At, c.e.Del, len(c.e.Ins), len(got), code)
		}
		if back := edit.Invert(c.was, c.e); back != (api.Edit{}) {
			t.Errorf("3.4: %d bytes, at %d, -%d, +%d", len(c.was), c.e.At, c.e.Del, len(c.e.Ins))
		}
		if one := edit.Cover(c.was, c.e, api.Edit{}); one != (api.Edit{}) {
			t.Errorf("3.8: the first is refused: at %d, %d, %d bytes", one.At, one.Del, len(one.Ins))
		}
		if len(c.was) <= api.MaxText {
			if one := edit.Cover(c.was, api.Edit{}, c.e); one != (api.Edit{}) {
				t.Errorf("3.8: the second is refused: at %d, %d, %d bytes", one.At, one.Del, len(one.Ins))
			}
		}
	}
	if one := edit.Cover(most, of(5, 1, ""), of(9, 0, "bb")); one != (api.Edit{}) {
		t.Error("3.8: the second is refused behind the first", one.At, one.Del)
	}
	if one := edit.Cover(most, of(5, 1, ""), of(7, 0, "b")); one != of(5, 3, "aab") {
		t.Errorf("3.8: of a full text: %+v", one)
	}
}

func TestAll(t *testing.T) {
	r := rand.New(rand.NewSource(3))
	for range 500 {
		was := "abcdefgh"[:r.Intn(9)]
		want := marks(was)
		var l []api.Edit
		for range r.Intn(6) {
			e := of(r.Intn(14)-3, r.Intn(9)-2, "vwxyz"[:r.Intn(6)])
			l, want = append(l, e), done(want, e)
		}
		kept := slices.Clone(l)
		if got, code, n := edit.All(was, l); got != text(want) || code != api.OK || n != len(l) {
			t.Fatalf("3.3: All(%q, %+v) = %q, %d, %d", was, l, got, code, n)
		}
		if !slices.Equal(l, kept) {
			t.Fatal("P2: the list of edits has been changed")
		}
	}
	for _, l := range [][]api.Edit{nil, {}} {
		if got, code, n := edit.All("ab", l); got != "ab" || code != api.OK || n != 0 {
			t.Errorf("3.3: no edits: %q, %d, %d", got, code, n)
		}
	}
}

func TestAllRefused(t *testing.T) {
	most := full()
	for _, c := range []struct {
		was  string
		l    []api.Edit
		want string
		code api.Errno
		n    int
	}{
		{most, []api.Edit{{Del: 2}, {Ins: "b"}, {Ins: "cc"}, {Del: 5}}, "b" + most[2:], api.ErrBig, 2},
		{most, []api.Edit{{Ins: "b"}, {Del: 5}}, most, api.ErrBig, 0},
		{most, []api.Edit{{}, {At: 1, Del: 1, Ins: "b"}, {At: math.MaxInt, Ins: "c"}}, "ab" + most[2:], api.ErrBig, 2},
		{"ab", []api.Edit{{Del: 1}, {At: 1, Ins: most}}, "b", api.ErrBig, 1},
		{"ab", []api.Edit{{Del: 2}, {At: 1, Ins: most}}, most, api.OK, 2},
		{"", []api.Edit{{Ins: most + "a"}, {Del: 1}}, "", api.ErrBig, 0},
		{most, nil, most, api.OK, 0},
		{most + "a", []api.Edit{{Del: 2}}, "", api.ErrBig, 0},
		{most + "a", []api.Edit{{}, {Ins: "b"}}, "", api.ErrBig, 0},
		{most + "a", nil, "", api.ErrBig, 0},
	} {
		if got, code, n := edit.All(c.was, c.l); got != c.want || code != c.code || n != c.n {
			t.Errorf("3.3: %d bytes, %d edits: %d bytes, %d, %d", len(c.was), len(c.l), len(got), code, n)
		}
	}
}

func TestPlacesOfWrongLengths(t *testing.T) {
	for _, n := range []int{math.MinInt, -1, api.MaxText + 1, math.MaxInt} {
		for _, e := range edits(2, "", "x") {
			for _, at := range []int{math.MinInt, -1, 0, 1, api.MaxText, math.MaxInt} {
				checkPlace(t, "3.5", at, -1, func() (int, bool) { return edit.Map(n, e, at) })
				checkPlace(t, "3.6", at, -1, func() (int, bool) { return edit.Back(n, e, at) })
			}
		}
	}
	const n = api.MaxText
	grow := of(0, 0, full()) // the text behind may be above MaxText
	for at, want := range map[int]int{0: n, n - 1: 2*n - 1, n: -1} {
		checkPlace(t, "3.5", at, want, func() (int, bool) { return edit.Map(n, grow, at) })
	}
	for at, want := range map[int]int{0: -1, n - 1: -1, n: 0, 2*n - 1: n - 1, 2 * n: -1} {
		checkPlace(t, "3.6", at, want, func() (int, bool) { return edit.Back(n, grow, at) })
	}
	for _, at := range numbers(1) {
		checkPlace(t, "3.5", at, -1, func() (int, bool) { return edit.Map(0, of(0, 0, ""), at) })
		checkPlace(t, "3.6", at, -1, func() (int, bool) { return edit.Back(0, of(0, 9, ""), at) })
	}
}

// short: all texts of at most n bytes that are made of these.
func short(n int, bytes string) []string {
	out := []string{""}
	for i := 0; i < len(out); i++ {
		if len(out[i]) == n {
			break
		}
		for _, b := range []byte(bytes) {
			out = append(out, out[i]+string([]byte{b}))
		}
	}
	return out
}

func TestBetween(t *testing.T) {
	all := short(5, "a\xff")
	for _, a := range all {
		for _, b := range all {
			e := edit.Between(a, b)
			at := 0
			for at < len(a) && at < len(b) && a[at] == b[at] {
				at++
			}
			if e.At != at || e != edit.Clamp(len(a), e) {
				t.Fatalf("3.7: Between(%q, %q) = %+v", a, b, e)
			}
			if got, code := edit.Apply(a, e); got != b || code != api.OK {
				t.Fatalf("3.11: Between(%q, %q) = %+v: %q, %d", a, b, e, got, code)
			}
			if a == b && e != of(len(a), 0, "") {
				t.Fatalf("3.11: Between(%q, %q) = %+v", a, b, e)
			}
			checkLeast(t, a, b, e)
		}
	}
}

// checkLeast: no edit that turns one text into the other deletes or inserts less.
func checkLeast(t *testing.T, a, b string, e api.Edit) {
	t.Helper()
	for at := range len(a) + 1 {
		for del := range len(a) - at + 1 {
			ins := len(b) - len(a) + del
			if ins < 0 || at+ins > len(b) || a[:at] != b[:at] || a[at+del:] != b[at+ins:] {
				continue
			}
			if del < e.Del || ins < len(e.Ins) {
				t.Fatalf("3.11: Between(%q, %q) = %+v, but %d, %d, %q does it too", a, b, e, at, del, b[at:at+ins])
			}
		}
	}
}

func TestBetweenOfLongTexts(t *testing.T) {
	most := full()
	for _, c := range []struct {
		a, b string
		want api.Edit
	}{
		{most, most, of(api.MaxText, 0, "")},
		{most, "", of(0, api.MaxText, "")},
		{most + most, most, of(api.MaxText, api.MaxText, "")},
		{most + "x" + most, most + "yz" + most, of(api.MaxText, 1, "yz")},
		{"b", "b" + most, of(1, 0, most)},
		{most + "b", "b" + most, of(0, api.MaxText+1, "b"+most)},
	} {
		if got := edit.Between(c.a, c.b); got != c.want {
			t.Errorf("3.7: %d and %d bytes: at %d, %d, %d bytes", len(c.a), len(c.b), got.At, got.Del, len(got.Ins))
		}
	}
}

// cover: the edit that 3.8 describes, by its words.
func cover(was string, a, b api.Edit) api.Edit {
	middle := text(done(marks(was), a))
	last := text(done(marks(middle), b))
	a, b = plain(len(was), a), plain(len(middle), b)
	d := len(a.Ins) - a.Del
	at := a.At
	if b.At < at {
		at = b.At
	}
	z := a.At + a.Del
	if b.At+b.Del > a.At+len(a.Ins) {
		z = b.At + b.Del - d
	}
	return of(at, z-at, last[at:len(last)-(len(was)-z)])
}

func checkCover(t *testing.T, was string, a, b api.Edit) {
	t.Helper()
	one := edit.Cover(was, a, b)
	if want := cover(was, a, b); one != want {
		t.Fatalf("3.8: Cover(%q, %+v, %+v) = %+v, want %+v", was, a, b, one, want)
	}
	both := done(done(marks(was), a), b)
	got, code := edit.Apply(was, one)
	if got != text(both) || code != api.OK {
		t.Fatalf("3.12: %q: %+v, %+v: %q, by %+v: %q, %d", was, a, b, text(both), one, got, code)
	}
	middle := len(done(marks(was), a))
	for at := range len(was) {
		to, ok := edit.Map(len(was), one, at)
		if !ok {
			continue
		}
		mid, okA := edit.Map(len(was), a, at)
		last, okB := edit.Map(middle, b, mid)
		if !okA || !okB || last != to || both[to].from != at {
			t.Fatalf("3.12: %q: %+v, %+v, by %+v: the byte %d goes to %d and to %d", was, a, b, one, at, last, to)
		}
	}
}

func TestCover(t *testing.T) {
	for _, was := range []string{"", "a", "ab", "abcd"} {
		for at := range len(was) + 1 {
			for del := range len(was) - at + 1 {
				for _, ins := range []string{"", "X", "XYZ"} {
					a := of(at, del, ins)
					middle := len(was) - del + len(ins)
					for _, b := range edits(middle, "", "Q", "QRST") {
						checkCover(t, was, a, b)
					}
				}
			}
		}
	}
	r := rand.New(rand.NewSource(8))
	for range 3000 {
		was := "abcdefghij"[:r.Intn(11)]
		checkCover(t, was, of(r.Intn(14)-2, r.Intn(8)-1, "UVWXYZ"[:r.Intn(7)]), of(r.Intn(16)-2, r.Intn(9)-1, "qrst"[:r.Intn(5)]))
	}
}

// An edit that changes nothing, ahead of another one or behind it, wherever it stands.
func TestCoverWithNothing(t *testing.T) {
	const was = "abcdef"
	for _, e := range edits(len(was), "", "xy") {
		want := text(done(marks(was), e))
		for at := range len(was) + 3 {
			for _, nothing := range []api.Edit{of(at, 0, ""), of(0, 0, "")} {
				checkCover(t, was, nothing, e)
				checkCover(t, was, e, nothing)
				ahead, _ := edit.Apply(was, edit.Cover(was, nothing, e))
				behind, _ := edit.Apply(was, edit.Cover(was, e, nothing))
				if ahead != want || behind != want {
					t.Fatalf("3.12: %+v, %+v: %q, %q, want %q", e, nothing, ahead, behind, want)
				}
			}
		}
	}
}

// lent: a text whose bytes the test may write over, as nobody else does.
func lent(s string) (string, func()) {
	b := []byte(s)
	return unsafe.String(&b[0], len(b)), func() {
		for i := range b {
			b[i] = '#'
		}
	}
}

// What is answered is new memory, but for a text to which nothing is done: that is handed on as it is.
func TestNewMemory(t *testing.T) {
	was, spoilWas := lent("hello world")
	ins, spoilIns := lent("brave new")
	e := of(6, 5, ins)
	type answer struct{ what, got, want string }
	var all []answer
	keep := func(what, got string) { all = append(all, answer{what, got, strings.Clone(got)}) }
	text := func(s string, _ api.Errno) string { return s }
	keep("Clamp", edit.Clamp(11, e).Ins)
	keep("Apply", text(edit.Apply(was, e)))
	keep("Apply, Ins alone", text(edit.Apply(was, of(0, 99, ins))))
	keep("Apply to nothing", text(edit.Apply("", of(0, 0, ins))))
	keep("Apply, a piece of the text", text(edit.Apply(was, of(0, 6, ""))))
	keep("Invert", edit.Invert(was, e).Ins)
	keep("Invert of all", edit.Invert(was, of(0, 99, "")).Ins)
	keep("Between", edit.Between(was, ins).Ins)
	keep("Between from nothing", edit.Between("", ins).Ins)
	keep("Cover", edit.Cover(was, e, of(1, 1, ins)).Ins)
	keep("Cover of two that do nothing", edit.Cover(was, api.Edit{}, of(5, 0, "")).Ins)
	keep("Cover of all", edit.Cover("", of(0, 0, ins), api.Edit{}).Ins)
	for _, l := range [][]api.Edit{{e, {}}, {{}, of(0, 99, ins)}, {of(0, 99, ""), of(0, 0, ins)}} {
		got, _, _ := edit.All(was, l)
		keep("All", got)
	}
	for _, nothing := range []api.Edit{{}, of(4, 0, ""), of(-9, -9, ""), of(math.MaxInt, math.MaxInt, "")} {
		got, _ := edit.Apply(was, nothing)
		if unsafe.StringData(got) != unsafe.StringData(was) || len(got) != len(was) {
			t.Errorf("Ways: %+v: the text is not handed on as it is", nothing)
		}
	}
	spoilWas()
	spoilIns()
	for _, a := range all {
		if a.got != a.want {
			t.Errorf("P2: %s: %q, behind writing into the arguments %q", a.what, a.want, a.got)
		}
	}
}
