package load_test

import (
	"maps"
	"math/rand"
	"reflect"
	"slices"
	"strconv"
	"strings"
	"testing"
	"unsafe"

	"trellis/api"
	"trellis/defn"
	"trellis/grammar"
	"trellis/load"
)

// enough: fails if one of the kinds has come up too seldom for the test to tell anything.
func enough[K comparable](t *testing.T, least int, seen map[K]int, kinds ...K) {
	t.Helper()
	for _, k := range kinds {
		if seen[k] < least {
			t.Errorf("only %d of %v: %v", seen[k], k, seen)
		}
	}
}

// check: a text against the chapter's words; what Load says of it.
func check(t *testing.T, text string) (api.Lang, api.Fault) {
	t.Helper()
	l, f := load.Load(text)
	want, fault := plainLoad(text)
	if f != fault || !alike(l, want) {
		t.Fatalf("14.1: Load(%q): %+v, want %+v; the same language: %v", text, f, fault, alike(l, want))
	}
	if f.At < 0 || f.At > len(text) {
		t.Fatalf("14.2: Load(%q): %+v, of %d bytes", text, f, len(text))
	}
	return l, f
}

// 14.1 to 14.3, 14.6, P10 of any definitions.
func TestModel(t *testing.T) {
	r := rand.New(rand.NewSource(1))
	seen := map[api.Errno]int{}
	for range 12000 {
		_, f := check(t, anyText(r))
		seen[f.Code]++
	}
	enough(t, 1500, seen, api.OK, api.ErrConflict)
	enough(t, 40, seen, api.ErrBarren, api.ErrUnknown, api.ErrTwice)
}

// Of a conflict the rule, whichever it is.
func TestBlame(t *testing.T) {
	r := rand.New(rand.NewSource(2))
	seen := map[int]int{}
	for range 5000 {
		m := newMaker(r, 6)
		lines := m.lines(5)
		text := mixed(r, lines)
		_, f := check(t, text)
		if f.Code != api.ErrConflict {
			continue
		}
		for i, line := range lines[3] {
			if f.At == strings.Index(text, line) {
				seen[i]++
			}
		}
	}
	enough(t, 30, seen, 0, 1, 2, 3, 4)
}

// 14.1, 14.2, P1, P10 of texts in which something is amiss.
func TestSpoiltTexts(t *testing.T) {
	r := rand.New(rand.NewSource(3))
	seen := map[api.Errno]int{}
	for range 25000 {
		text := anyText(r)
		if r.Intn(50) == 0 {
			text = little
		}
		_, f := check(t, spoilt(r, text))
		seen[f.Code]++
	}
	enough(t, 20, seen, api.OK, api.ErrRegex, api.ErrByte, api.ErrString, api.ErrWord, api.ErrTwice, api.ErrUnknown, api.ErrUnused, api.ErrBarren, api.ErrStray, api.ErrConflict)
}

// P1, P10: any bytes.
func TestAnyBytes(t *testing.T) {
	r := rand.New(rand.NewSource(4))
	for range 20000 {
		b := make([]byte, r.Intn(40))
		r.Read(b)
		if r.Intn(2) == 0 {
			for i := range b {
				b[i] = pick(r, []byte("language l;rule s=(a|b)*+?@:\"x\" /a/ # \n0")...)
			}
		}
		check(t, pick(r, "", "language l; ", a)+string(b))
	}
	for _, n := range []int{api.MaxDefn, api.MaxDefn + 1, 1 << 20} {
		for _, s := range []string{"(", "a ", "\"", "/", "\x00", "#", "rule s = s s | ( ); ", "0"} {
			l, f := load.Load((a + "rule s = " + times(n, s))[:n])
			if f.Code == api.OK || f.At < 0 || f.At > n || !alike(l, api.Lang{}) {
				t.Errorf("14.2: %d of %q: %+v", n, s, f)
			}
		}
	}
}

// P10: a beginning of a text is a definition's just behind a line; of this one just behind all tokens and rules.
func TestBeginnings(t *testing.T) {
	rules := strings.Index(little, "paint NAME") - len("\n")
	for i := range len(little) {
		_, f := check(t, little[:i])
		if whole := i >= rules && strings.HasSuffix(strings.TrimSpace(little[:i]), ";"); whole != (f.Code == api.OK) {
			t.Fatalf("P10: the first %d bytes: %+v", i, f)
		}
	}
}

// 14.6, P6: of a language each sentence comes about in one way; a definition in which one comes about in two is refused.
func TestOneTree(t *testing.T) {
	r := rand.New(rand.NewSource(5))
	seen := map[string]int{}
	for range 6000 {
		m := newMaker(r, 1+r.Intn(3))
		text := mixed(r, m.lines(r.Intn(6)))
		d, _, code, _ := defn.Parse(text)
		if code != api.OK {
			t.Fatal(text)
		}
		g, _, flaw := grammar.Build(d)
		if flaw.Code != api.OK || len(g.Terms) > 5 {
			continue
		}
		most := 0
		for _, n := range sentences(g) {
			most = max(most, n)
		}
		_, f := load.Load(text)
		if most > 1 && f.Code != api.ErrConflict {
			t.Fatalf("14.6: %s: a sentence comes about in two ways, but: %+v", text, f)
		}
		seen[strconv.Itoa(most)+f.Code.Error()]++
	}
	enough(t, 300, seen, "1"+api.OK.Error(), "2"+api.ErrConflict.Error())
	enough(t, 20, seen, "1"+api.ErrConflict.Error())
}

// 14.4: other layouts, brackets that change nothing, lines of the lists mixed otherwise, and the canonical text.
func TestLayouts(t *testing.T) {
	r := rand.New(rand.NewSource(6))
	seen := map[api.Errno]int{}
	for range 2000 {
		lists := newMaker(r, 1+r.Intn(4)).lines(r.Intn(7))
		text := mixed(r, lists)
		want, fault := check(t, text)
		for i, line := range lists[3] {
			at := strings.Index(line, "=") + 1
			lists[3][i] = line[:at] + "((" + line[at:len(line)-1] + "));"
		}
		others := []string{laid(r, cut(t, text)), mixed(r, lists), laid(r, cut(t, mixed(r, lists)))}
		d, _, _, _ := defn.Parse(text)
		if s, code := defn.Print(d); code == api.OK {
			others = append(others, s)
		}
		for _, s := range others {
			if l, f := check(t, s); f.Code != fault.Code || !alike(l, want) {
				t.Fatalf("14.4: %q: %+v; %q: %+v", text, fault, s, f)
			}
		}
		seen[fault.Code]++
	}
	enough(t, 300, seen, api.OK, api.ErrConflict)
}

// renamer: other names. Tokens and rules are named from one list, modes and flags each from their own.
type renamer struct {
	*rand.Rand
	tokens, modes, flags map[string]string
	stay                 map[string]bool // what stands behind an @
	lits                 map[string]bool
}

// fresh: for each name another one: unlike ones for unlike ones, hidden ones for hidden ones; of another length too.
func (x *renamer) fresh(names []string, stem string) map[string]string {
	out := map[string]string{}
	for _, s := range names {
		if _, ok := out[s]; ok {
			continue
		}
		name := pick(x.Rand, "rule", "token", "in", "zz") + stem + strconv.Itoa(len(out))
		if s[0] == '_' {
			name = "_" + name
		}
		out[s] = name
	}
	return out
}

func newRenamer(r *rand.Rand, d api.Defn) *renamer {
	x := &renamer{Rand: r, stay: map[string]bool{}, lits: map[string]bool{}}
	var tokens, modes []string
	for _, s := range d.Scans {
		if s.Term != "" {
			tokens = append(tokens, s.Term)
		}
	}
	for _, r := range d.Rules {
		tokens = append(tokens, r.Name)
		for _, n := range r.Expr {
			x.stay[n.Text] = x.stay[n.Text] || n.Op == api.GAs
			x.lits[n.Text] = x.lits[n.Text] || n.Op == api.GLit
		}
	}
	for _, m := range d.Modes {
		modes = append(modes, m.Name)
	}
	x.tokens, x.modes, x.flags = x.fresh(tokens, pick(r, "", "q")), x.fresh(modes, ""), x.fresh(d.Flags, "")
	return x
}

// of: the other name, if there is one.
func of(m map[string]string, s string) string {
	if n, ok := m[s]; ok {
		return n
	}
	return s
}

// node: the name of a line that is about nodes.
func (x *renamer) node(s string) string {
	if x.stay[s] {
		return s
	}
	return of(x.tokens, s)
}

func (x *renamer) paints(l []api.PaintDef) []api.PaintDef {
	out := slices.Clone(l)
	for i, p := range l {
		if !x.lits[p.Name] {
			out[i].Name = x.node(p.Name)
		}
	}
	return out
}

func (x *renamer) folds(l []string) []string {
	var out []string
	for _, s := range l {
		out = append(out, x.node(s))
	}
	return out
}

func (x *renamer) marks(l []api.MarkDef) []api.MarkDef {
	out := slices.Clone(l)
	for i, m := range l {
		out[i].Name = x.node(m.Name)
	}
	return out
}

func (x *renamer) injects(l []api.InjectDef) []api.InjectDef {
	out := slices.Clone(l)
	for i, j := range l {
		out[i].Name = x.node(j.Name)
	}
	return out
}

func (x *renamer) modeDefs(l []api.ModeDef) []api.ModeDef {
	out := slices.Clone(l)
	for i, m := range l {
		out[i].Name = of(x.modes, m.Name)
	}
	return out
}

// defn: the definition with the other names.
func (x *renamer) defn(d api.Defn) api.Defn {
	out := api.Defn{Name: d.Name, Modes: x.modeDefs(d.Modes), Paints: x.paints(d.Paints), Folds: x.folds(d.Folds), Marks: x.marks(d.Marks), Injects: x.injects(d.Injects)}
	for _, s := range d.Flags {
		out.Flags = append(out.Flags, of(x.flags, s))
	}
	for _, s := range d.Scans {
		s.Term = of(x.tokens, s.Term)
		s.In, s.Tests, s.Acts = slices.Clone(s.In), slices.Clone(s.Tests), slices.Clone(s.Acts)
		for i := range s.In {
			s.In[i] = of(x.modes, s.In[i])
		}
		for i := range s.Tests {
			s.Tests[i].Name = of(x.flags, s.Tests[i].Name)
		}
		for i, a := range s.Acts {
			s.Acts[i].Name = of(x.flags, a.Name)
			if a.Kind == api.ActEnter {
				s.Acts[i].Name = of(x.modes, a.Name)
			}
		}
		out.Scans = append(out.Scans, s)
	}
	for _, r := range d.Rules {
		n := api.RuleDef{Name: of(x.tokens, r.Name), Expr: slices.Clone(r.Expr)}
		for i, e := range n.Expr {
			if e.Op == api.GName {
				n.Expr[i].Text = of(x.tokens, e.Text)
			}
		}
		out.Rules = append(out.Rules, n)
	}
	return out
}

// lang: the language with the other names.
func (x *renamer) lang(l api.Lang) api.Lang {
	l.Modes, l.Paints, l.Folds, l.Marks, l.Injects = x.modeDefs(l.Modes), x.paints(l.Paints), x.folds(l.Folds), x.marks(l.Marks), x.injects(l.Injects)
	l.Gram.Terms, l.Gram.Syms = slices.Clone(l.Gram.Terms), slices.Clone(l.Gram.Syms)
	for i, s := range l.Gram.Terms {
		if !s.Lit {
			l.Gram.Terms[i].Name = of(x.tokens, s.Name)
		}
	}
	for i, s := range l.Gram.Syms {
		l.Gram.Syms[i].Name = of(x.tokens, s.Name)
	}
	return l
}

// 14.5: with other names the same language but for these, or the same code.
func TestNames(t *testing.T) {
	r := rand.New(rand.NewSource(7))
	seen := map[string]int{}
	for i := range 6000 {
		text := anyText(r)
		if i%100 == 0 {
			text = little
		}
		l, f := load.Load(text)
		d, _, _, _ := defn.Parse(text)
		x := newRenamer(r, d)
		other, code := defn.Print(x.defn(d))
		if code != api.OK {
			t.Fatalf("%s: %d", text, code)
		}
		got, fault := load.Load(other)
		if fault.Code != f.Code || !alike(got, x.lang(l)) {
			t.Fatalf("14.5: %s: %+v; %s: %+v", text, f, other, fault)
		}
		if f.Code == api.OK {
			seen["language"]++
		} else {
			seen["fault"]++
		}
		for _, p := range l.Paints {
			if _, named := x.tokens[p.Name]; named && x.lits[p.Name] {
				seen["a literal stays"]++
			}
		}
		for _, s := range l.Folds {
			if _, named := x.tokens[s]; named && x.stay[s] {
				seen["behind an @ it stays"]++
			} else if named {
				seen["renamed"]++
			}
		}
	}
	enough(t, 1000, seen, "language", "fault")
	enough(t, 10, seen, "renamed", "a literal stays", "behind an @ it stays")
}

// room: memory that a list or a text takes, a list's spare room too.
type room struct {
	from, to uintptr
	list     bool
}

func rooms(v reflect.Value) []room {
	var out []room
	switch v.Kind() {
	case reflect.String:
		if s := v.String(); s != "" {
			at := uintptr(unsafe.Pointer(unsafe.StringData(s)))
			out = append(out, room{at, at + uintptr(len(s)), false})
		}
	case reflect.Slice:
		if v.Cap() > 0 {
			out = append(out, room{v.Pointer(), v.Pointer() + uintptr(v.Cap())*v.Type().Elem().Size(), true})
		}
		for i := range v.Len() {
			out = append(out, rooms(v.Index(i))...)
		}
	case reflect.Struct:
		for i := range v.NumField() {
			out = append(out, rooms(v.Field(i))...)
		}
	}
	return out
}

// apart: do no two of them that may not share memory share any? Two texts may share theirs: nobody writes into one.
func apart(l []room, shared func(a, b room) bool) bool {
	slices.SortFunc(l, func(a, b room) int { return int(a.from) - int(b.from) })
	for i, a := range l {
		for _, b := range l[i+1:] {
			if b.from >= a.to {
				break
			}
			if !shared(a, b) {
				return false
			}
		}
	}
	return true
}

// wipe puts the zero value in every place of every list, its spare room too.
func wipe(v reflect.Value) {
	switch v.Kind() {
	case reflect.Slice:
		for i := range v.Len() {
			wipe(v.Index(i))
		}
		v = v.Slice(0, v.Cap())
		for i := range v.Len() {
			v.Index(i).SetZero()
		}
	case reflect.Struct:
		for i := range v.NumField() {
			wipe(v.Field(i))
		}
	}
}

// checkMemory: 14.2, P2, P3 of a text; false if it is refused.
func checkMemory(t *testing.T, text string) bool {
	t.Helper()
	text = strings.Clone(text)
	one, f := load.Load(text)
	two, g := load.Load(text)
	if f != g || !alike(one, two) {
		t.Fatalf("P3: %s: %+v, then %+v", text, f, g)
	}
	own := rooms(reflect.ValueOf(one))
	if !apart(own, func(a, b room) bool { return !a.list && !b.list }) {
		t.Fatalf("P2: two lists of the language of %s share memory", text)
	}
	others := slices.Concat(rooms(reflect.ValueOf(two)), rooms(reflect.ValueOf(text)))
	mine := map[room]bool{}
	for _, a := range own {
		mine[a] = true
	}
	if !apart(slices.Concat(slices.Collect(maps.Keys(mine)), others), func(a, b room) bool { return !mine[a] && !mine[b] || mine[a] && mine[b] && a != b }) {
		t.Fatalf("14.2, P2: the language of %s is not new memory", text)
	}
	wipe(reflect.ValueOf(&one).Elem())
	if three, _ := load.Load(text); !alike(two, three) {
		t.Fatalf("14.2, P2: what is written into the language of %s changes others", text)
	}
	return f.Code == api.OK
}

// 14.2, P2, P3: a language is nobody else's.
func TestMemory(t *testing.T) {
	r := rand.New(rand.NewSource(8))
	taken := 0
	for range 1500 {
		if checkMemory(t, anyText(r)) {
			taken++
		}
	}
	if taken < 300 {
		t.Errorf("only %d languages", taken)
	}
	if !checkMemory(t, little) {
		t.Error("14.1: the little language is refused")
	}
}
