package grammar_test

import (
	"maps"
	"math"
	"math/rand"
	"reflect"
	"slices"
	"strconv"
	"strings"
	"testing"
	"unsafe"

	"trellis/api"
	"trellis/grammar"
)

// rows: rows of tokens, a byte each, none of more than longest.
type rows map[string]bool

const longest = 4

// then: the rows of a, each with one of b behind it.
func (a rows) then(b rows) rows {
	out := rows{}
	for x := range a {
		for y := range b {
			if len(x)+len(y) <= longest {
				out[x+y] = true
			}
		}
	}
	return out
}

func (a rows) or(b rows) rows {
	out := rows{}
	maps.Copy(out, a)
	maps.Copy(out, b)
	return out
}

// often: one or more rows of a, one behind the other.
func (a rows) often() rows {
	out := a
	for range longest {
		out = out.or(out.then(a))
	}
	return out
}

// sentences: what DOC.md says that a node means, if these are the rows of the rules.
func sentences(t []api.GNode, i int, g api.Gram, rules map[string]rows) rows {
	n := t[i]
	nothing := rows{"": true}
	of := func(place int) rows { return sentences(t, place, g, rules) }
	switch n.Op {
	case api.GName, api.GLit:
		if k := slices.Index(g.Terms, api.TermDef{Name: n.Text, Lit: n.Op == api.GLit}); k > 0 {
			return rows{string([]byte{byte(k)}): true}
		}
		return rules[n.Text]
	case api.GEmpty:
		return nothing
	case api.GSeq:
		return of(n.A).then(of(n.B))
	case api.GAlt:
		return of(n.A).or(of(n.B))
	case api.GStar:
		return nothing.or(of(n.A).often())
	case api.GPlus:
		return of(n.A).often()
	case api.GOpt:
		return nothing.or(of(n.A))
	}
	return of(n.A)
}

// meant: the rows that come from each rule, by the meaning of expressions.
func meant(d api.Defn, g api.Gram) map[string]rows {
	known := map[string]rows{}
	for again := true; again; {
		again = false
		for _, r := range d.Rules {
			now := sentences(r.Expr, len(r.Expr)-1, g, known)
			again = again || len(now) > len(known[r.Name])
			known[r.Name] = now
		}
	}
	return known
}

// made: the rows that come from each Sym, by the productions.
func made(g api.Gram) []rows {
	known := make([]rows, len(g.Syms))
	for i := range known {
		known[i] = rows{}
	}
	for again := true; again; {
		again = false
		for _, p := range g.Prods[1:] {
			row := rows{"": true}
			for _, r := range p.Rhs {
				if r.Sym < len(g.Terms) {
					row = row.then(rows{string([]byte{byte(r.Sym)}): true})
				} else {
					row = row.then(known[r.Sym-len(g.Terms)])
				}
			}
			now := known[p.Lhs].or(row)
			again = again || len(now) > len(known[p.Lhs])
			known[p.Lhs] = now
		}
	}
	return known
}

// sameRows: 10.4.
func sameRows(t *testing.T, d api.Defn, g api.Gram) {
	t.Helper()
	by, from := meant(d, g), made(g)
	for i, r := range d.Rules {
		if !maps.Equal(by[r.Name], from[i]) {
			t.Fatalf("10.4: %+v: from %s come %v, by the productions %v", d, r.Name, by[r.Name], from[i])
		}
	}
}

// isSound: 10.5.
func isSound(t *testing.T, d api.Defn, g api.Gram) {
	t.Helper()
	var fruitful, reached [128]bool
	reached[0] = true
	for range g.Syms {
		for _, p := range g.Prods[1:] {
			all := true
			for _, r := range p.Rhs {
				if r.Sym < 1 || r.Sym >= len(g.Terms)+len(g.Syms) {
					t.Fatalf("10.5: Build(%+v) has a Ref of the symbol %d", d, r.Sym)
				}
				if i := r.Sym - len(g.Terms); i >= 0 {
					all = all && fruitful[i]
					reached[i] = reached[i] || reached[p.Lhs]
				}
			}
			fruitful[p.Lhs] = fruitful[p.Lhs] || all
		}
	}
	for i, s := range g.Syms {
		has := slices.ContainsFunc(g.Prods, func(p api.Prod) bool { return p.Lhs == i })
		if !has || !fruitful[i] || !reached[i] {
			t.Fatalf("10.5: Build(%+v): the symbol %d, %+v: a production %v, fruitful %v, reached %v", d, i, s, has, fruitful[i], reached[i])
		}
	}
}

// exprsOf: all trees with n operators.
func exprsOf(n int, known map[int][][]api.GNode) [][]api.GNode {
	if l := known[n]; l != nil {
		return l
	}
	var out [][]api.GNode
	if n == 0 {
		out = [][]api.GNode{leaf(api.GName, "a"), leaf(api.GLit, "a"), leaf(api.GName, "s"), leaf(api.GEmpty, ""), one(api.GAs, "n", leaf(api.GName, "a"))}
	}
	for left := range n {
		for _, a := range exprsOf(left, known) {
			for _, b := range exprsOf(n-1-left, known) {
				out = append(out, two(api.GSeq, a, b), two(api.GAlt, a, b))
			}
		}
	}
	if n > 0 {
		for _, a := range exprsOf(n-1, known) {
			out = append(out, one(api.GStar, "", a), one(api.GPlus, "", a), one(api.GOpt, "", a), one(api.GField, "f", a), one(api.GField, "g", a))
		}
	}
	known[n] = out
	return out
}

// 10.1, 10.3 to 10.5 of all small expressions.
func TestAllSmall(t *testing.T) {
	d, _, _ := read(t, "token a /a/; rule s = a;")
	known := map[int][][]api.GNode{}
	seen := map[string]int{}
	for n := range 4 {
		for _, e := range exprsOf(n, known) {
			d.Rules[0].Expr = e
			want := plainCheck(d)
			seen[kind(want)]++
			g, l, f := grammar.Build(d)
			if f != want || grammar.Check(d) != want {
				t.Fatalf("10.1: %+v: %+v, want %+v", e, f, want)
			}
			if f.Code != api.OK {
				continue
			}
			if m := newPlain(d); !alike(g, m.gram()) || !alike(l, m.rules()) {
				t.Fatalf("10.3: %+v: %+v, want %+v", e, g, m.gram())
			}
			sameRows(t, d, g)
			isSound(t, d, g)
		}
	}
	enough(t, seen, 1000, kind(api.Flaw{}), kind(flaw(api.ErrUnused, api.PartScan, 0, 0)), kind(flaw(api.ErrBarren, api.PartRule, 0, 0)))
}

// 10.4 and 10.5 of random definitions of several rules.
func TestRowsRandom(t *testing.T) {
	r := rand.New(rand.NewSource(104))
	seen := map[string]int{}
	for range 3000 {
		d := newPool(r, 2+r.Intn(2)).sound(r.Intn(8))
		g, _, f := grammar.Build(d)
		if f.Code != api.OK {
			continue
		}
		seen["sound"]++
		isSound(t, d, g)
		if len(g.Terms) < 5 {
			sameRows(t, d, g)
			seen["rows"]++
		}
	}
	enough(t, seen, 1000, "sound", "rows")
}

// renamer: other texts for names and literals, unlike ones for unlike ones.
type renamer struct{ known []string }

func (x *renamer) name(s string) string {
	if s == "" {
		return ""
	}
	if !slices.Contains(x.known, s) {
		x.known = append(x.known, s)
	}
	hide := s[:len(s)-len(strings.TrimPrefix(s, "_"))]
	return hide + "n" + strconv.Itoa(slices.Index(x.known, s))
}

// lit: as many other bytes; none of the names above.
func (x *renamer) lit(s string) string {
	out := []byte(s)
	for i := range out {
		out[i] ^= 0x85
	}
	return string(out)
}

func (x *renamer) defn(d api.Defn) api.Defn {
	lits := newPlain(d).lits
	out := api.Defn{Name: x.name(d.Name)}
	for _, m := range d.Modes {
		out.Modes = append(out.Modes, api.ModeDef{Name: x.name(m.Name), Open: m.Open})
	}
	for _, s := range d.Flags {
		out.Flags = append(out.Flags, x.name(s))
	}
	for _, s := range d.Scans {
		n := api.ScanDef{Term: x.name(s.Term), Pat: s.Pat, Re: s.Re, Lit: x.lit(s.Lit)}
		for _, m := range s.In {
			n.In = append(n.In, x.name(m))
		}
		for _, t := range s.Tests {
			n.Tests = append(n.Tests, api.TestDef{Kind: t.Kind, Name: x.name(t.Name)})
		}
		for _, a := range s.Acts {
			n.Acts = append(n.Acts, api.ActDef{Kind: a.Kind, Name: x.name(a.Name), N: a.N})
		}
		out.Scans = append(out.Scans, n)
	}
	for _, r := range d.Rules {
		n := api.RuleDef{Name: x.name(r.Name), Expr: slices.Clone(r.Expr)}
		for i, e := range n.Expr {
			if n.Expr[i].Text = x.name(e.Text); e.Op == api.GLit {
				n.Expr[i].Text = x.lit(e.Text)
			}
		}
		out.Rules = append(out.Rules, n)
	}
	for _, p := range d.Paints {
		name := x.name(p.Name)
		if slices.Contains(lits, p.Name) {
			name = x.lit(p.Name)
		}
		out.Paints = append(out.Paints, api.PaintDef{Name: name, Class: p.Class})
	}
	for _, s := range d.Folds {
		out.Folds = append(out.Folds, x.name(s))
	}
	for _, m := range d.Marks {
		out.Marks = append(out.Marks, api.MarkDef{Name: x.name(m.Name), Field: x.name(m.Field)})
	}
	for _, j := range d.Injects {
		out.Injects = append(out.Injects, api.InjectDef{Name: x.name(j.Name), Lang: x.name(j.Lang)})
	}
	return out
}

func (x *renamer) gram(g api.Gram) api.Gram {
	for i, n := range g.Terms {
		if g.Terms[i].Name = x.name(n.Name); n.Lit {
			g.Terms[i].Name = x.lit(n.Name)
		}
	}
	for i := range g.Syms {
		g.Syms[i].Name = x.name(g.Syms[i].Name)
	}
	for _, p := range g.Prods {
		for i, r := range p.Rhs {
			p.Rhs[i] = api.Ref{Sym: r.Sym, Field: x.name(r.Field), As: x.name(r.As)}
		}
	}
	return g
}

// 10.6: with other names the same flaw, or the same grammar and rules but for these.
func TestNamesAreFree(t *testing.T) {
	r := rand.New(rand.NewSource(106))
	seen := map[string]int{}
	for i := range 6000 {
		p := newPool(r, 1+r.Intn(4))
		d := p.sound(r.Intn(9))
		if i%3 == 0 {
			d = p.spoilt(d)
		}
		x := &renamer{}
		other := x.defn(d)
		g, l, f := grammar.Build(d)
		g2, l2, f2 := grammar.Build(other)
		for i := range l {
			l[i].Lit = x.lit(l[i].Lit)
		}
		if f != f2 || grammar.Check(other) != f || !alike(x.gram(g), g2) || !alike(l, l2) {
			t.Fatalf("10.6: %+v: %+v, %+v, %+v; %+v: %+v, %+v, %+v", d, g, l, f, other, g2, l2, f2)
		}
		seen[map[bool]string{true: "sound", false: "flaw"}[f.Code == api.OK]]++
	}
	enough(t, seen, 500, "sound", "flaw")
}

// room: memory that a list or a text takes, a list's spare room too.
type room struct {
	from, to uintptr
	list     bool
}

func rooms(v reflect.Value) []room {
	var out []room
	switch v.Kind() {
	case reflect.String:
		if s := v.String(); s != "" {
			at := uintptr(unsafe.Pointer(unsafe.StringData(s)))
			out = append(out, room{at, at + uintptr(len(s)), false})
		}
	case reflect.Slice:
		if v.Cap() > 0 {
			out = append(out, room{v.Pointer(), v.Pointer() + uintptr(v.Cap())*v.Type().Elem().Size(), true})
		}
		for i := range v.Len() {
			out = append(out, rooms(v.Index(i))...)
		}
	case reflect.Struct:
		for i := range v.NumField() {
			out = append(out, rooms(v.Field(i))...)
		}
	}
	return out
}

func (a room) meets(b room) bool { return a.from < b.to && b.from < a.to }

// spare gives each list of a value spare room; keep gets the lists with that room.
func spare(v reflect.Value, keep *[]reflect.Value) {
	switch v.Kind() {
	case reflect.Slice:
		n := v.Len()
		out := reflect.MakeSlice(v.Type(), n+2, n+2)
		reflect.Copy(out, v)
		for i := range n {
			spare(out.Index(i), keep)
		}
		v.Set(out.Slice(0, n))
		*keep = append(*keep, out)
	case reflect.String:
		v.SetString(strings.Clone(v.String()))
	case reflect.Struct:
		for i := range v.NumField() {
			spare(v.Field(i), keep)
		}
	}
}

// wipe puts the zero value in every place of every list, its spare room too.
func wipe(v reflect.Value) {
	switch v.Kind() {
	case reflect.Slice:
		for i := range v.Len() {
			wipe(v.Index(i))
		}
		v = v.Slice(0, v.Cap())
		for i := range v.Len() {
			v.Index(i).SetZero()
		}
	case reflect.Struct:
		for i := range v.NumField() {
			wipe(v.Field(i))
		}
	}
}

type answer struct {
	Gram  api.Gram
	Rules []api.Rule
	Flaw  api.Flaw
}

func builtOf(d api.Defn) answer {
	g, l, f := grammar.Build(d)
	return answer{g, l, f}
}

// P2, P3: nothing that is handed in is changed or shared; what is handed out is new, and shares nothing with anything.
func TestMemory(t *testing.T) {
	r := rand.New(rand.NewSource(2))
	seen := map[string]int{}
	for i := range 2000 {
		p := newPool(r, 1+r.Intn(5))
		d := p.sound(r.Intn(9))
		if i%4 == 0 {
			d = p.spoilt(d)
		}
		var lists []reflect.Value
		spare(reflect.ValueOf(&d).Elem(), &lists)
		was := make([]reflect.Value, len(lists))
		for k, l := range lists {
			was[k] = reflect.MakeSlice(l.Type(), l.Len(), l.Len())
			reflect.Copy(was[k], l)
		}
		got, again := builtOf(d), builtOf(d)
		f := grammar.Check(d)
		for k := range lists {
			if !alikeValues(lists[k], was[k]) {
				t.Fatalf("P2: %+v has been changed", d)
			}
		}
		mine := rooms(reflect.ValueOf(got))
		others := slices.Concat(rooms(reflect.ValueOf(again)), rooms(reflect.ValueOf(d)))
		for k, a := range mine {
			shared := func(b room) bool { return a.list && b.list && a.meets(b) }
			if slices.ContainsFunc(mine[:k], shared) {
				t.Fatalf("P2: two lists of Build(%+v) share memory", d)
			}
			if slices.ContainsFunc(others, a.meets) {
				t.Fatalf("P2: what Build(%+v) answers is not new memory", d)
			}
		}
		wipe(reflect.ValueOf(&again).Elem())
		third := builtOf(d)
		wipe(reflect.ValueOf(&d).Elem())
		if f != got.Flaw || !alike(got, third) {
			t.Fatalf("P3: %+v, then %+v", got, third)
		}
		seen[map[bool]string{true: "sound", false: "flaw"}[f.Code == api.OK]]++
	}
	enough(t, seen, 100, "sound", "flaw")
}

// anyNumber, anyText: of such as are handed in by mistake.
func anyNumber(r *rand.Rand) int {
	return pick(r, -1, 0, 1, 2, 3, r.Intn(12), -2, math.MinInt, math.MaxInt, 1<<31)
}

// anything fills a value with whatever fits its type.
func anything(r *rand.Rand, v reflect.Value) {
	switch v.Kind() {
	case reflect.Int:
		v.SetInt(int64(anyNumber(r)))
	case reflect.Uint64:
		v.SetUint(r.Uint64() * uint64(r.Intn(2)))
	case reflect.Bool:
		v.SetBool(r.Intn(2) == 0)
	case reflect.String:
		v.SetString(pick(r, "", "a", "s", "_", "0", "\xff", strings.Repeat("n", 25)))
	case reflect.Array:
		for i := range v.Len() {
			anything(r, v.Index(i))
		}
	case reflect.Slice:
		n := r.Intn(4)
		v.Set(reflect.MakeSlice(v.Type(), n, n))
		for i := range n {
			anything(r, v.Index(i))
		}
	case reflect.Struct:
		for i := range v.NumField() {
			anything(r, v.Field(i))
		}
	}
}

// P1: whatever is handed in, the calls answer.
func TestAnything(t *testing.T) {
	r := rand.New(rand.NewSource(1))
	for i := range 20000 {
		var d api.Defn
		var sp api.Spots
		var f api.Flaw
		anything(r, reflect.ValueOf(&sp).Elem())
		anything(r, reflect.ValueOf(&f).Elem())
		grammar.Place(sp, f)
		if i%2 == 0 {
			anything(r, reflect.ValueOf(&d).Elem())
		} else {
			d = newPool(r, 3).sound(4)
			v := reflect.ValueOf(&d).Elem()
			anything(r, v.Field(r.Intn(v.NumField())))
		}
		sameFlaw(t, d, plainCheck(d))
	}
}

// long: a tree of n operators, each above what there is so far and, if it has two operands, a further leaf, to its right or to its left.
func long(n int, op api.GOp, first, further []api.GNode, left bool) []api.GNode {
	binary := op == api.GSeq || op == api.GAlt
	if !binary || !left {
		out := slices.Clone(first)
		for range n {
			a, b := len(out)-1, -1
			if binary {
				out = append(out, further...)
				b = len(out) - 1
			}
			out = append(out, api.GNode{Op: op, A: a, B: b})
		}
		return out
	}
	out := slices.Concat(slices.Repeat(further, n), first)
	for i := range n {
		out = append(out, api.GNode{Op: op, A: n - 1 - i, B: len(out) - 1})
	}
	return out
}

// P1: definitions far beyond any text, answered soon. With work that grows as the square these would take hours.
func TestSoon(t *testing.T) {
	const n = 1 << 17
	a, x := leaf(api.GName, "a"), leaf(api.GLit, "x")
	base, _, _ := read(t, "token a /a/; rule s = a;")
	with := func(e []api.GNode) api.Defn {
		d := base
		d.Rules = []api.RuleDef{{Name: "s", Expr: e}}
		return d
	}
	fields := func(e []api.GNode) []api.GNode {
		for i := range e {
			if e[i].Op == api.GField {
				e[i].Text = "f" + strconv.Itoa(i%7)
			}
		}
		return e
	}
	// f: (f: (.. a) x) x: each field has one more Ref below it
	var stairs []api.GNode
	stairs = append(stairs, a...)
	for range n {
		stairs = append(stairs, api.GNode{Op: api.GField, A: len(stairs) - 1, B: -1}, x[0])
		stairs = append(stairs, api.GNode{Op: api.GSeq, A: len(stairs) - 2, B: len(stairs) - 1})
	}
	prods := flaw(api.ErrProds, 0, 0, 0)
	for _, c := range []struct {
		what string
		expr []api.GNode
		want api.Flaw
		row  int // how long the first rule's first production is
	}{
		{"a row to the left", long(n, api.GSeq, a, x, false), api.Flaw{}, n + 1},
		{"a row to the right", long(n, api.GSeq, a, x, true), api.Flaw{}, n + 1},
		{"fields upon fields", fields(long(n, api.GField, long(n, api.GSeq, a, x, true), nil, false)), api.Flaw{}, n + 1},
		{"fields like stairs", fields(stairs), api.Flaw{}, n + 1},
		{"alternatives to the left", long(n, api.GAlt, a, x, false), prods, 0},
		{"alternatives to the right", long(n, api.GAlt, a, x, true), prods, 0},
		{"stars", long(n, api.GStar, a, nil, false), prods, 0},
		{"nothings", long(n, api.GSeq, a, leaf(api.GEmpty, ""), true), api.Flaw{}, 1},
		{"names of nobody", long(n, api.GSeq, a, leaf(api.GName, "nobody"), false), flaw(api.ErrUnknown, api.PartRule, 0, 1), 0},
	} {
		g, _, f := grammar.Build(with(c.expr))
		if f != c.want || grammar.Check(with(c.expr)) != c.want || f.Code == api.OK && len(g.Prods[1].Rhs) != c.row {
			t.Errorf("10.1: %s: %+v", c.what, f)
		}
		if c.what == "fields like stairs" {
			for i, r := range g.Prods[1].Rhs[1:n] {
				if want := "f" + strconv.Itoa((3*i+4)%7); r.Field != want {
					t.Fatalf("10.3: the Ref %d has the field %q, want %q", i+1, r.Field, want)
				}
			}
		}
	}
	soonLists(t, n, base)
}

// soonLists: lists that are far too long.
func soonLists(t *testing.T, n int, base api.Defn) {
	a := leaf(api.GName, "a")
	name := func(i int) string { return "n" + strconv.Itoa(i) }
	for what, c := range map[string]struct {
		spoil func(d *api.Defn, i int)
		want  api.Flaw
	}{
		"modes":  {func(d *api.Defn, i int) { d.Modes = append(d.Modes, api.ModeDef{Name: name(i)}) }, flaw(api.ErrTerms, api.PartMode, 16, 0)},
		"flags":  {func(d *api.Defn, i int) { d.Flags = append(d.Flags, name(i)) }, flaw(api.ErrTerms, api.PartFlag, 16, 0)},
		"tokens": {func(d *api.Defn, i int) { d.Scans = append(d.Scans, api.ScanDef{Term: name(i), Pat: api.PatBody}) }, flaw(api.ErrUnused, api.PartScan, 1, 0)},
		"skips":  {func(d *api.Defn, i int) { d.Scans = append(d.Scans, api.ScanDef{Pat: api.PatBody}) }, flaw(api.ErrProds, 0, 0, 0)},
		"rules":  {func(d *api.Defn, i int) { d.Rules = append(d.Rules, api.RuleDef{Name: name(i), Expr: a}) }, flaw(api.ErrProds, 0, 0, 0)},
		"literals": {func(d *api.Defn, i int) {
			d.Rules = append(d.Rules, api.RuleDef{Name: name(i), Expr: leaf(api.GLit, name(i))})
		}, flaw(api.ErrTerms, 0, 0, 0)},
		"paints":    {func(d *api.Defn, i int) { d.Paints = append(d.Paints, api.PaintDef{Name: name(i)}) }, flaw(api.ErrUnknown, api.PartPaint, 0, 0)},
		"one paint": {func(d *api.Defn, i int) { d.Paints = append(d.Paints, api.PaintDef{Name: "a"}) }, flaw(api.ErrTwice, api.PartPaint, 1, 0)},
		"folds": {func(d *api.Defn, i int) {
			d.Rules[0].Expr = append(d.Rules[0].Expr, api.GNode{Op: api.GName, Text: "a", A: -1, B: -1}, api.GNode{Op: api.GAs, Text: name(i), A: 3*i + 1, B: -1}, api.GNode{Op: api.GSeq, A: 3 * i, B: 3*i + 2})
			d.Folds = append(d.Folds, name(i))
		}, api.Flaw{}},
	} {
		d := base
		d.Scans, d.Rules = slices.Clone(base.Scans), []api.RuleDef{{Name: "s", Expr: slices.Clone(a)}}
		for i := range n {
			c.spoil(&d, i)
		}
		if _, _, f := grammar.Build(d); f != c.want || grammar.Check(d) != c.want {
			t.Errorf("10.1: %s: %+v, want %+v", what, f, c.want)
		}
	}
	d := base
	d.Modes = []api.ModeDef{{Name: "m"}}
	d.Scans = []api.ScanDef{{Term: "a", Pat: api.PatBody, In: slices.Repeat([]string{"m"}, n)}}
	sameFlaw(t, d, flaw(api.ErrTwice, api.PartScan, 0, 0))
}

// P1: rules that are found fruitful, reached and weighed one after the other, each with a long row.
func TestSoonChain(t *testing.T) {
	name := func(i int) string { return "n" + strconv.Itoa(i) }
	for _, up := range []bool{true, false} {
		d := api.Defn{Name: "l", Rules: []api.RuleDef{{Name: "s", Expr: leaf(api.GLit, "x")}}}
		for i := range 127 {
			next := name(i + 1)
			if i == 126 {
				next = name(i)
			}
			e := long(1<<13, api.GSeq, leaf(api.GName, next), leaf(api.GName, next), true)
			if i == 126 {
				e = leaf(api.GEmpty, "")
			}
			d.Rules = append(d.Rules, api.RuleDef{Name: name(i), Expr: e})
		}
		d.Rules[0].Expr = two(api.GAlt, leaf(api.GLit, "x"), leaf(api.GName, name(0)))
		if up {
			slices.Reverse(d.Rules[1:])
		}
		sameFlaw(t, d, flaw(api.ErrHollow, api.PartRule, 0, -1))
	}
}
