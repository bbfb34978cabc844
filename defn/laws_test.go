package defn_test

import (
	"math/rand"
	"reflect"
	"slices"
	"strings"
	"testing"
	"unsafe"

	"trellis/api"
	"trellis/defn"
)

// 9.5: what is written is read as what it was; what is read is well shaped, and is written.
func TestBack(t *testing.T) {
	r := rand.New(rand.NewSource(95))
	for range 4000 {
		d := randomDefn(r, 3)
		text, e := defn.Print(d)
		if e != api.OK {
			t.Fatalf("9.5: Print(%+v) = %d", d, e)
		}
		if got := parse(text); got.code != api.OK || got.place != 0 || !alike(got.defn, d) {
			t.Fatalf("9.5: Print(%+v) = %q, which is read as %+v", d, text, got)
		}
	}
	seen := map[string]int{}
	for i := range 5000 {
		l := shuffled(r, randomDefn(r, 2))
		if i%2 == 0 {
			l = spoilt(r, l)
		}
		text, _ := laid(r, l)
		got := parse(text)
		if got.code != api.OK {
			continue
		}
		again, e := defn.Print(got.defn)
		if !defn.Shaped(got.defn) || e != api.OK || !alike(parse(again).defn, got.defn) {
			t.Fatalf("9.5: Parse(%q) = %+v, which is written as %q, %d", text, got, again, e)
		}
		if twice, _ := defn.Print(parse(again).defn); twice != again {
			t.Fatalf("9.5: %q is written as %q", again, twice)
		}
		seen["read"]++
	}
	enough(t, seen, 2500, "read")
}

// 9.5: a definition that is read may be too long to be written.
func TestBackLong(t *testing.T) {
	text := "language l;rule s=" + strings.Repeat("a|", 7000) + "a;"
	got := parse(text)
	if s, e := defn.Print(got.defn); got.code != api.OK || !defn.Shaped(got.defn) || s != "" || e != api.ErrLong {
		t.Errorf("9.5: %d at %d, written with %d", got.code, got.place, e)
	}
}

// 9.6: however the words are laid out and written, they say the same, or are refused at the same word.
func TestWordsAlone(t *testing.T) {
	r := rand.New(rand.NewSource(96))
	seen := map[string]int{}
	for i := range 6000 {
		l := shuffled(r, randomDefn(r, 2))
		if i%3 > 0 {
			l = spoilt(r, l)
		}
		one, from := laid(r, l)
		two, to := laid(r, l)
		a, b := parse(one), parse(two)
		if a.code != api.OK {
			a.place, b.place = within(a.place, from, len(one)), within(b.place, to, len(two))
			seen["refused"]++
		} else {
			a.spots, b.spots = moved(a.spots, from, len(one)), moved(b.spots, to, len(two))
			seen["read"]++
		}
		if !alike(a, b) {
			t.Fatalf("9.6: %q is read as %+v, %q as %+v", one, a, two, b)
		}
	}
	enough(t, seen, 1000, "refused", "read")
}

// within: a place told by its word, and how far behind that one's first byte it is.
func within(place int, places []int, end int) int {
	for i := len(places) - 1; i >= 0 && place < end; i-- {
		if place >= places[i] {
			return i<<20 + place - places[i]
		}
	}
	return -1
}

// moved: the spots told by words.
func moved(s api.Spots, places []int, end int) api.Spots {
	for _, l := range append([][]int{s.Modes, s.Flags, s.Scans, s.Rules, s.Paints, s.Folds, s.Marks, s.Injects}, s.Nodes...) {
		for i, p := range l {
			l[i] = within(p, places, end)
		}
	}
	return s
}

// begins: each list of a is the beginning of that of b, and they have the same name.
func begins(a, b api.Defn) bool {
	va, vb := reflect.ValueOf(a), reflect.ValueOf(b)
	for i := range va.NumField() {
		x, y := va.Field(i), vb.Field(i)
		if x.Kind() != reflect.Slice {
			continue
		}
		if x.Len() > y.Len() || !alikeValues(x, y.Slice(0, x.Len())) {
			return false
		}
	}
	return a.Name == b.Name
}

// 9.7: the beginnings of a definition.
func TestBeginnings(t *testing.T) {
	r := rand.New(rand.NewSource(97))
	seen := map[string]int{}
	for range 1000 {
		l := shuffled(r, randomDefn(r, 2))
		text, places := laid(r, l)
		whole := parse(text)
		for i := range l {
			head := text[:places[i]]
			got := parse(head)
			if i == 0 || !isSign(l[i-1], ";") {
				if !alike(got, answer{code: api.ErrWord, place: len(head)}) {
					t.Fatalf("9.7: Parse(%q) = %+v", head, got)
				}
				seen["within"]++
				continue
			}
			if got.code != api.OK || !begins(got.defn, whole.defn) {
				t.Fatalf("9.7: Parse(%q) = %+v, and of the whole %+v", head, got, whole)
			}
			seen["behind"]++
		}
	}
	enough(t, seen, 3000, "within", "behind")
}

// joined: a's lists, and then b's.
func joined(a, b api.Defn) api.Defn {
	va, vb := reflect.ValueOf(&a).Elem(), reflect.ValueOf(b)
	for i := range va.NumField() {
		if f := va.Field(i); f.Kind() == reflect.Slice {
			f.Set(reflect.AppendSlice(f.Slice3(0, f.Len(), f.Len()), vb.Field(i)))
		}
	}
	return a
}

// 9.8: the lines of two definitions, one behind the other.
func TestLines(t *testing.T) {
	r := rand.New(rand.NewSource(98))
	for range 3000 {
		a, _ := laid(r, shuffled(r, randomDefn(r, 2)))
		words := shuffled(r, randomDefn(r, 2))
		b, places := laid(r, words)
		rest := b[places[2]+1:]
		got, first, second := parse(a+"\n"+rest), parse(a), parse(b)
		if got.code != api.OK || got.place != 0 || !alike(got.defn, joined(first.defn, second.defn)) {
			t.Fatalf("9.8: %q and %q: %+v", a, rest, got)
		}
	}
}

// room: memory that a list or a text takes, a list's spare room too.
type room struct {
	from, to uintptr
	list     bool
}

// rooms: those of all lists and texts of a value.
func rooms(v reflect.Value) []room {
	var out []room
	switch v.Kind() {
	case reflect.String:
		if s := v.String(); s != "" {
			at := uintptr(unsafe.Pointer(unsafe.StringData(s)))
			out = append(out, room{at, at + uintptr(len(s)), false})
		}
	case reflect.Slice:
		if v.Cap() > 0 {
			out = append(out, room{v.Pointer(), v.Pointer() + uintptr(v.Cap())*v.Type().Elem().Size(), true})
		}
		for i := range v.Len() {
			out = append(out, rooms(v.Index(i))...)
		}
	case reflect.Struct:
		for i := range v.NumField() {
			out = append(out, rooms(v.Field(i))...)
		}
	}
	return out
}

func (a room) meets(b room) bool { return a.from < b.to && b.from < a.to }

// P2: what Parse answers is new memory, no two lists of it share any, and no text of it is a piece of what was handed in.
func TestAnswersOfTheirOwn(t *testing.T) {
	r := rand.New(rand.NewSource(99))
	for range 1000 {
		d := randomDefn(r, 3)
		text, _ := laid(r, shuffled(r, d))
		got, again := parse(text), parse(text)
		mine, others := rooms(reflect.ValueOf(got)), slices.Concat(rooms(reflect.ValueOf(text)), rooms(reflect.ValueOf(again)))
		for i, a := range mine {
			for _, b := range mine[:i] {
				if a.list && b.list && a.meets(b) {
					t.Fatalf("P2: two lists of Parse(%q) share memory", text)
				}
			}
			if slices.ContainsFunc(others, a.meets) {
				t.Fatalf("P2: what Parse(%q) answers is not new memory", text)
			}
		}
		if !alike(got, again) {
			t.Fatalf("P3: Parse(%q) = %+v, then %+v", text, got, again)
		}
	}
}

// spare: the same value, each list with spare room behind it that has something in it; and all of that room.
func spare(v reflect.Value, keep *[]reflect.Value) {
	switch v.Kind() {
	case reflect.Slice:
		n := v.Len()
		out := reflect.MakeSlice(v.Type(), n+2, n+2)
		reflect.Copy(out, v)
		for i := range n {
			spare(out.Index(i), keep)
		}
		v.Set(out.Slice(0, n))
		*keep = append(*keep, out)
	case reflect.Struct:
		for i := range v.NumField() {
			spare(v.Field(i), keep)
		}
	}
}

// flatCopy: what is in the lists now.
func flatCopy(l []reflect.Value) []reflect.Value {
	var out []reflect.Value
	for _, v := range l {
		c := reflect.MakeSlice(v.Type(), v.Len(), v.Len())
		reflect.Copy(c, v)
		out = append(out, c)
	}
	return out
}

// P2: Print, Expr and Shaped change nothing of what they are handed, its spare room too; what they answer is no piece of it.
func TestHandedIn(t *testing.T) {
	r := rand.New(rand.NewSource(100))
	for range 1500 {
		d := randomDefn(r, 3)
		if r.Intn(3) == 0 {
			d = spoiltDefn(r, d)
		}
		var lists []reflect.Value
		spare(reflect.ValueOf(&d).Elem(), &lists)
		was := flatCopy(lists)
		answers := []string{}
		text, _ := defn.Print(d)
		answers = append(answers, text)
		for _, x := range d.Rules {
			text, _ := defn.Expr(x.Expr)
			answers = append(answers, text)
		}
		defn.Shaped(d)
		for i := range lists {
			if !alikeValues(lists[i], was[i]) {
				t.Fatalf("P2: %+v has been changed", d)
			}
		}
		handed := rooms(reflect.ValueOf(d))
		for _, a := range rooms(reflect.ValueOf(answers)) {
			if slices.ContainsFunc(handed, a.meets) {
				t.Fatalf("P2: an answer is a piece of %+v", d)
			}
		}
		if again, _ := defn.Print(d); again != text {
			t.Fatalf("P3: Print(%+v) = %q, then %q", d, text, again)
		}
	}
	one := strings.Repeat("n", 9)
	if text, _ := defn.Expr([]api.GNode{node(api.GName, one, -1, -1)}); text != one || unsafe.StringData(text) == unsafe.StringData(one) {
		t.Errorf("P2: Expr of a name answers %q", text)
	}
}
