package defn_test

import (
	"reflect"
	"regexp"
	"slices"
	"strconv"
	"strings"
	"testing"

	"trellis/api"
	"trellis/defn"
	"trellis/regex"
	"trellis/words"
)

// What the tests of this package share: the chapter's words told plainly. Which words may go on is asked of DOC.md's grammar, by a chart; what a definition's lines say is read by patterns, what its expressions say from their ends.

// answer: what Parse answers.
type answer struct {
	defn  api.Defn
	spots api.Spots
	code  api.Errno
	place int
}

func parse(text string) answer {
	d, s, code, at := defn.Parse(text)
	return answer{d, s, code, at}
}

// alike: the same, but that a nil list is an empty list.
func alike(a, b any) bool { return alikeValues(reflect.ValueOf(a), reflect.ValueOf(b)) }

func alikeValues(a, b reflect.Value) bool {
	switch a.Kind() {
	case reflect.Slice:
		if a.Len() != b.Len() {
			return false
		}
		for i := range a.Len() {
			if !alikeValues(a.Index(i), b.Index(i)) {
				return false
			}
		}
		return true
	case reflect.Struct:
		for i := range a.NumField() {
			if !alikeValues(a.Field(i), b.Field(i)) {
				return false
			}
		}
		return true
	}
	return a.Equal(b)
}

// plainGrammar: DOC.md's grammar of definitions, a line a production: small letters in angles are its own names, capitals kinds of words, all else words that stand there.
const plainGrammar = `
<definition> language NAME ; <lines>
<lines>
<lines> <lines> <line>
<line> mode NAME ;
<line> mode NAME open ;
<line> flag NAME ;
<line> skip <pattern> <in> <when> <do> ;
<line> token NAME <pattern> <in> <when> <do> ;
<line> rule NAME = <expr> ;
<line> paint NAME STRING ;
<line> paint STRING STRING ;
<line> fold NAME ;
<line> mark NAME NAME ;
<line> inject NAME NAME ;
<pattern> REGEX
<pattern> STRING
<pattern> empty
<pattern> delim
<pattern> body
<in>
<in> in <names>
<names> NAME
<names> <names> , NAME
<when>
<when> when <tests>
<tests> <test>
<tests> <tests> , <test>
<test> deeper
<test> shallower
<test> queued
<test> unqueued
<test> flag NAME
<test> noflag NAME
<test> ended
<test> indented
<do>
<do> do <acts>
<acts> <act>
<acts> <acts> , <act>
<act> measure
<act> indent
<act> dedent
<act> drop
<act> enqueue NUMBER
<act> dequeue
<act> enter NAME
<act> enter NAME NUMBER
<act> leave
<act> set NAME
<act> clear NAME
<expr> <row>
<expr> <expr> | <row>
<row> <many>
<row> <row> <many>
<many> <part>
<many> <many> *
<many> <many> +
<many> <many> ?
<part> <atom>
<part> NAME : <atom>
<atom> NAME
<atom> STRING
<atom> NAME @ NAME
<atom> STRING @ NAME
<atom> ( )
<atom> ( <expr> )`

// production: what a symbol of the grammar becomes.
type production struct {
	of string
	to []string
}

// grammar: by symbol the productions of DOC.md's grammar.
var grammar = func() map[string][]*production {
	out := map[string][]*production{}
	for _, l := range strings.Split(plainGrammar, "\n")[1:] {
		f := strings.Fields(l)
		out[f[0]] = append(out[f[0]], &production{f[0], f[1:]})
	}
	return out
}()

// item: a production with a dot, and how many words stood ahead of it.
type item struct {
	*production
	dot, from int
}

func (i item) next() string {
	if i.dot == len(i.to) {
		return ""
	}
	return i.to[i.dot]
}

// chart: by how many words have been read, the items that go with them. (Earley's way; no symbol of the grammar that can be nothing stands ahead of something that ends where it does, but by that itself.)
type chart struct{ sets [][]item }

func newChart() *chart {
	c := &chart{sets: [][]item{nil}}
	c.grow(item{production: grammar["<definition>"][0]})
	return c
}

// grow: an item of the last set, and all that come with it.
func (c *chart) grow(i item) {
	last := len(c.sets) - 1
	if slices.Contains(c.sets[last], i) {
		return
	}
	c.sets[last] = append(c.sets[last], i)
	switch n := i.next(); {
	case n == "":
		for k := 0; k < len(c.sets[i.from]); k++ {
			if j := c.sets[i.from][k]; j.next() == i.of {
				c.grow(item{j.production, j.dot + 1, j.from})
			}
		}
	case grammar[n] != nil:
		for _, p := range grammar[n] {
			c.grow(item{production: p, from: last})
			if len(p.to) == 0 { // whoever waits for it need not wait
				c.grow(item{i.production, i.dot + 1, i.from})
			}
		}
	}
}

// goes: may the word stand where the grammar has that?
func goes(want string, w api.Word) bool {
	switch w.Kind {
	case api.WordName:
		return want == "NAME" || want == w.Text
	case api.WordSign:
		return want == w.Text
	}
	return want == map[api.WordKind]string{api.WordString: "STRING", api.WordRegex: "REGEX", api.WordNumber: "NUMBER"}[w.Kind]
}

// push reads a word; false: no definition goes on with it.
func (c *chart) push(w api.Word) bool {
	before := c.sets[len(c.sets)-1]
	c.sets = append(c.sets, nil)
	for _, i := range before {
		if goes(i.next(), w) {
			c.grow(item{i.production, i.dot + 1, i.from})
		}
	}
	return len(c.sets[len(c.sets)-1]) > 0
}

func (c *chart) pop() { c.sets = c.sets[:len(c.sets)-1] }

// whole: is what has been read a definition?
func (c *chart) whole() bool {
	return slices.ContainsFunc(c.sets[len(c.sets)-1], func(i item) bool { return i.of == "<definition>" && i.next() == "" })
}

func isSign(w api.Word, text string) bool { return w.Kind == api.WordSign && w.Text == text }

// plainParse: 9.1.
func plainParse(text string) answer {
	l, code, at := words.Cut(text)
	if code != api.OK {
		return answer{code: code, place: at}
	}
	c, open := newChart(), 0
	for _, w := range l {
		switch {
		case !c.push(w):
			return answer{code: api.ErrWord, place: w.At}
		case w.Kind == api.WordRegex:
			if _, code, at := regex.Parse(w.Text); code != api.OK {
				return answer{code: code, place: w.At + 1 + at}
			}
		case isSign(w, "(") && open == 32:
			return answer{code: api.ErrDeep, place: w.At}
		case isSign(w, "("):
			open++
		case isSign(w, ")"):
			open--
		}
	}
	if !c.whole() {
		return answer{code: api.ErrWord, place: len(text)}
	}
	return plainDefinition(l)
}

// plainDefinition: what the words of a definition say.
func plainDefinition(l []api.Word) answer {
	var out answer
	for len(l) > 0 {
		end := slices.IndexFunc(l, func(w api.Word) bool { return isSign(w, ";") })
		out.line(l[:end])
		l = l[end+1:]
	}
	return out
}

const (
	nm  = `([A-Za-z_]\w*)`
	tst = `(?:deeper|shallower|queued|unqueued|ended|indented|(?:flag|noflag) [A-Za-z_]\w*)`
	act = `(?:measure|indent|dedent|drop|dequeue|leave|enqueue \d+|enter [A-Za-z_]\w*(?: \d+)?|(?:set|clear) [A-Za-z_]\w*)`
)

// listed: the pattern once, and again behind each comma.
func listed(p string) string { return `(` + p + `(?: , ` + p + `)*)` }

// plainLine: the lines, of words with a blank between each two; in the place of a string and a regex stands its place among the line's words.
var plainLine = regexp.MustCompile(`^(?:language ` + nm + `|mode ` + nm + `( open)?|flag ` + nm +
	`|(?:skip|token ` + nm + `) (empty|delim|body|"\d+"|/\d+/)(?: in ` + listed(`[A-Za-z_]\w*`) + `)?(?: when ` + listed(tst) + `)?(?: do ` + listed(act) + `)?` +
	`|paint (?:` + nm + `|"(\d+)") "(\d+)"|fold ` + nm + `|mark ` + nm + ` ` + nm + `|inject ` + nm + ` ` + nm + `)$`)

func plainText(l []api.Word) string {
	var out []string
	for i, w := range l {
		switch w.Kind {
		case api.WordString:
			out = append(out, `"`+strconv.Itoa(i)+`"`)
		case api.WordRegex:
			out = append(out, `/`+strconv.Itoa(i)+`/`)
		default:
			out = append(out, words.Spell(w))
		}
	}
	return strings.Join(out, " ")
}

// line: what a line says, behind what the ones ahead of it say.
func (a *answer) line(l []api.Word) {
	d, s, at := &a.defn, &a.spots, l[0].At
	if l[0].Text == "rule" {
		e := plainExpr(l[3:])
		nodes, places := e.flat(nil, nil)
		d.Rules, s.Rules, s.Nodes = append(d.Rules, api.RuleDef{Name: l[1].Text, Expr: nodes}), append(s.Rules, at), append(s.Nodes, places)
		return
	}
	m := plainLine.FindStringSubmatch(plainText(l))
	quoted := func(k string) string { i, _ := strconv.Atoi(k); return l[i].Text }
	switch l[0].Text {
	case "language":
		d.Name = m[1]
	case "mode":
		d.Modes, s.Modes = append(d.Modes, api.ModeDef{Name: m[2], Open: m[3] != ""}), append(s.Modes, at)
	case "flag":
		d.Flags, s.Flags = append(d.Flags, m[4]), append(s.Flags, at)
	case "skip", "token":
		d.Scans, s.Scans = append(d.Scans, plainScan(m[5:10], quoted)), append(s.Scans, at)
	case "paint":
		called := m[10]
		if called == "" {
			called = quoted(m[11])
		}
		d.Paints, s.Paints = append(d.Paints, api.PaintDef{Name: called, Class: quoted(m[12])}), append(s.Paints, at)
	case "fold":
		d.Folds, s.Folds = append(d.Folds, m[13]), append(s.Folds, at)
	case "mark":
		d.Marks, s.Marks = append(d.Marks, api.MarkDef{Name: m[14], Field: m[15]}), append(s.Marks, at)
	case "inject":
		d.Injects, s.Injects = append(d.Injects, api.InjectDef{Name: m[16], Lang: m[17]}), append(s.Injects, at)
	}
}

// plainScan: a scanning definition, of its token, its pattern and its three lists.
func plainScan(m []string, quoted func(string) string) api.ScanDef {
	s := api.ScanDef{Term: m[0]}
	switch m[1][0] {
	case '"':
		s.Pat, s.Lit = 2, quoted(m[1][1:len(m[1])-1])
	case '/':
		s.Pat = 1
		s.Re, _, _ = regex.Parse(quoted(m[1][1 : len(m[1])-1]))
	default:
		s.Pat = map[string]api.PatKind{"empty": 3, "delim": 4, "body": 5}[m[1]]
	}
	if m[2] != "" {
		s.In = strings.Split(m[2], " , ")
	}
	if m[3] != "" {
		for _, t := range strings.Split(m[3], " , ") {
			f := append(strings.Fields(t), "")
			s.Tests = append(s.Tests, api.TestDef{Kind: plainTests[f[0]], Name: f[1]})
		}
	}
	if m[4] != "" {
		for _, t := range strings.Split(m[4], " , ") {
			s.Acts = append(s.Acts, plainAct(strings.Fields(t)))
		}
	}
	return s
}

var plainTests = map[string]api.TestKind{"deeper": 1, "shallower": 2, "queued": 3, "unqueued": 4, "flag": 5, "noflag": 6, "ended": 7, "indented": 8}

var plainActs = map[string]api.ActKind{"measure": 1, "indent": 2, "dedent": 3, "drop": 4, "enqueue": 5, "dequeue": 6, "enter": 7, "leave": 8, "set": 9, "clear": 10}

func plainAct(f []string) api.ActDef {
	a := api.ActDef{Kind: plainActs[f[0]]}
	switch f[0] {
	case "enqueue":
		a.N, _ = strconv.Atoi(f[1])
	case "enter":
		a.Name, a.N = f[1], -1
		if len(f) > 2 {
			a.N, _ = strconv.Atoi(f[2])
		}
	case "set", "clear":
		a.Name = f[1]
	}
	return a
}

// expr: an expression as a tree; at: its node's place.
type expr struct {
	op   api.GOp
	text string
	at   int
	kids []*expr
}

// flat: its nodes and their places, behind those that are there.
func (e *expr) flat(nodes []api.GNode, places []int) ([]api.GNode, []int) {
	n := api.GNode{Op: e.op, Text: e.text, A: -1, B: -1}
	for i, k := range e.kids {
		nodes, places = k.flat(nodes, places)
		if i == 0 {
			n.A = len(nodes) - 1
		} else {
			n.B = len(nodes) - 1
		}
	}
	return append(nodes, n), append(places, e.at)
}

// plainExpr: an expression, read from its end.
func plainExpr(l []api.Word) *expr {
	if bar := lastBar(l); bar >= 0 {
		return &expr{api.GAlt, "", l[bar].At, []*expr{plainExpr(l[:bar]), plainExpr(l[bar+1:])}}
	}
	if from := lastMany(l); from > 0 {
		a := plainExpr(l[:from])
		return &expr{api.GSeq, "", a.at, []*expr{a, plainExpr(l[from:])}}
	}
	end := len(l) - 1
	switch last := l[end]; {
	case isSign(last, "*") || isSign(last, "+") || isSign(last, "?"):
		return &expr{map[string]api.GOp{"*": 6, "+": 7, "?": 8}[last.Text], "", last.At, []*expr{plainExpr(l[:end])}}
	case end > 1 && isSign(l[1], ":"):
		return &expr{api.GField, l[0].Text, l[0].At, []*expr{plainExpr(l[2:])}}
	case end > 1 && isSign(l[1], "@"):
		return &expr{api.GAs, l[2].Text, l[1].At, []*expr{plainExpr(l[:1])}}
	case end == 1:
		return &expr{api.GEmpty, "", l[0].At, nil}
	case end > 1:
		return plainExpr(l[1:end])
	case last.Kind == api.WordString:
		return &expr{api.GLit, last.Text, last.At, nil}
	}
	return &expr{api.GName, l[0].Text, l[0].At, nil}
}

// lastBar: the last bar that stands in no bracket, or -1.
func lastBar(l []api.Word) int {
	depth := 0
	for i := len(l) - 1; i >= 0; i-- {
		switch {
		case isSign(l[i], "|") && depth == 0:
			return i
		case isSign(l[i], ")"):
			depth++
		case isSign(l[i], "("):
			depth--
		}
	}
	return -1
}

// lastMany: where the last many of a row begins.
func lastMany(l []api.Word) int {
	i := len(l) - 1
	for isSign(l[i], "*") || isSign(l[i], "+") || isSign(l[i], "?") {
		i--
	}
	if isSign(l[i], ")") {
		for depth := 1; depth > 0; {
			i--
			if isSign(l[i], ")") {
				depth++
			} else if isSign(l[i], "(") {
				depth--
			}
		}
	}
	if i > 0 && isSign(l[i-1], "@") {
		i -= 2
	}
	if i > 0 && isSign(l[i-1], ":") {
		i -= 2
	}
	return i
}

// unflat: the tree of nodes that are one.
func unflat(t []api.GNode, i int) *expr {
	e := &expr{op: t[i].Op, text: t[i].Text}
	for _, k := range []int{t[i].A, t[i].B} {
		if k >= 0 {
			e.kids = append(e.kids, unflat(t, k))
		}
	}
	return e
}

// plainBrackets: does an operand stand in brackets (9.3)?
func plainBrackets(of api.GOp, right bool, child api.GOp) bool {
	switch child {
	case api.GAlt:
		return of != api.GAlt || right
	case api.GSeq:
		return of == api.GSeq && right || of == api.GStar || of == api.GPlus || of == api.GOpt || of == api.GField
	case api.GStar, api.GPlus, api.GOpt, api.GField:
		return of == api.GField
	}
	return false
}

func nameWord(s string) api.Word { return api.Word{Kind: api.WordName, Text: s} }

func stringWord(s string) api.Word { return api.Word{Kind: api.WordString, Text: s} }

func signWord(s string) api.Word { return api.Word{Kind: api.WordSign, Text: s} }

// words: an expression's words, with brackets where they are needed, and where more says so, too.
func (e *expr) words(more func() bool) []api.Word {
	var k [][]api.Word
	for i, kid := range e.kids {
		l := kid.words(more)
		if plainBrackets(e.op, i == 1, kid.op) || e.op != api.GAs && more() {
			l = slices.Concat([]api.Word{signWord("(")}, l, []api.Word{signWord(")")})
		}
		k = append(k, l)
	}
	switch e.op {
	case api.GName:
		return []api.Word{nameWord(e.text)}
	case api.GLit:
		return []api.Word{stringWord(e.text)}
	case api.GEmpty:
		return []api.Word{signWord("("), signWord(")")}
	case api.GSeq:
		return append(k[0], k[1]...)
	case api.GAlt:
		return slices.Concat(k[0], []api.Word{signWord("|")}, k[1])
	case api.GField:
		return append([]api.Word{nameWord(e.text), signWord(":")}, k[0]...)
	case api.GAs:
		return append(k[0], signWord("@"), nameWord(e.text))
	}
	return append(k[0], signWord(map[api.GOp]string{6: "*", 7: "+", 8: "?"}[e.op]))
}

func never() bool { return false }

// depth: how many brackets are open at most.
func depth(l []api.Word) int {
	most, open := 0, 0
	for _, w := range l {
		if isSign(w, "(") {
			open++
		} else if isSign(w, ")") {
			open--
		}
		most = max(most, open)
	}
	return most
}

var plainNames = regexp.MustCompile(`\A[A-Za-z_][A-Za-z_0-9]*\z`)

func plainName(s string) bool { return len(s) <= 24 && plainNames.MatchString(s) }

// plainStart: where the tree begins whose root is at the place i, looked at from the root on; -1: it is none.
func plainStart(t []api.GNode, i int) int {
	if i < 0 {
		return -1
	}
	n := t[i]
	switch n.Op {
	case api.GName, api.GField, api.GAs:
		if !plainName(n.Text) {
			return -1
		}
	case api.GEmpty, api.GSeq, api.GAlt, api.GStar, api.GPlus, api.GOpt:
		if n.Text != "" {
			return -1
		}
	}
	switch n.Op {
	case api.GName, api.GLit, api.GEmpty:
		if n.A == -1 && n.B == -1 {
			return i
		}
	case api.GAs:
		if n.A == i-1 && n.B == -1 && i > 0 && (t[i-1].Op == api.GName || t[i-1].Op == api.GLit) {
			return plainStart(t, i-1)
		}
	case api.GStar, api.GPlus, api.GOpt, api.GField:
		if n.A == i-1 && n.B == -1 {
			return plainStart(t, i-1)
		}
	case api.GSeq, api.GAlt:
		if b := plainStart(t, i-1); b > 0 && n.B == i-1 && n.A == b-1 {
			return plainStart(t, b-1)
		}
	}
	return -1
}

// plainShaped: 9.2.
func plainShaped(d api.Defn) bool {
	names := []string{d.Name}
	for _, m := range d.Modes {
		names = append(names, m.Name)
	}
	names = append(append(names, d.Flags...), d.Folds...)
	for _, m := range d.Marks {
		names = append(names, m.Name, m.Field)
	}
	for _, j := range d.Injects {
		names = append(names, j.Name, j.Lang)
	}
	for _, s := range d.Scans {
		if s.Term != "" {
			names = append(names, s.Term)
		}
		names = append(names, s.In...)
		if s.Pat < 1 || s.Pat > 5 || s.Pat == 1 && !regex.Shaped(s.Re) || s.Pat != 1 && len(s.Re) > 0 || s.Pat != 2 && s.Lit != "" {
			return false
		}
		for _, t := range s.Tests {
			if t.Kind == 5 || t.Kind == 6 {
				names = append(names, t.Name)
			} else if t.Kind < 1 || t.Kind > 8 || t.Name != "" {
				return false
			}
		}
		for _, a := range s.Acts {
			if a.Kind == 7 || a.Kind == 9 || a.Kind == 10 {
				names = append(names, a.Name)
			} else if a.Kind < 1 || a.Kind > 10 || a.Name != "" {
				return false
			}
			if a.N > 65535 || a.N < -1 || a.N == -1 && a.Kind != 7 || a.N > 0 && a.Kind != 5 && a.Kind != 7 {
				return false
			}
		}
	}
	for _, r := range d.Rules {
		names = append(names, r.Name)
		if plainStart(r.Expr, len(r.Expr)-1) != 0 {
			return false
		}
	}
	return !slices.ContainsFunc(names, func(s string) bool { return !plainName(s) })
}

// plainLines: a definition's lines, list by list, with brackets where more says so, too.
func plainLines(d api.Defn, more func() bool) [][][]api.Word {
	line := func(l ...api.Word) []api.Word { return append(l, signWord(";")) }
	lists := make([][][]api.Word, 9)
	add := func(list int, l ...api.Word) { lists[list] = append(lists[list], line(l...)) }
	add(0, nameWord("language"), nameWord(d.Name))
	for _, m := range d.Modes {
		l := []api.Word{nameWord("mode"), nameWord(m.Name)}
		if m.Open {
			l = append(l, nameWord("open"))
		}
		add(1, l...)
	}
	for _, f := range d.Flags {
		add(2, nameWord("flag"), nameWord(f))
	}
	for _, s := range d.Scans {
		add(3, plainScanWords(s)...)
	}
	for _, r := range d.Rules {
		add(4, slices.Concat([]api.Word{nameWord("rule"), nameWord(r.Name), signWord("=")}, unflat(r.Expr, len(r.Expr)-1).words(more))...)
	}
	for _, p := range d.Paints {
		called := stringWord(p.Name)
		if plainName(p.Name) {
			called = nameWord(p.Name)
		}
		add(5, nameWord("paint"), called, stringWord(p.Class))
	}
	for _, f := range d.Folds {
		add(6, nameWord("fold"), nameWord(f))
	}
	for _, m := range d.Marks {
		add(7, nameWord("mark"), nameWord(m.Name), nameWord(m.Field))
	}
	for _, j := range d.Injects {
		add(8, nameWord("inject"), nameWord(j.Name), nameWord(j.Lang))
	}
	return lists
}

func plainScanWords(s api.ScanDef) []api.Word {
	l := []api.Word{nameWord("token"), nameWord(s.Term)}
	if s.Term == "" {
		l = []api.Word{nameWord("skip")}
	}
	switch s.Pat {
	case 1:
		text, _ := regex.Print(s.Re)
		l = append(l, api.Word{Kind: api.WordRegex, Text: text})
	case 2:
		l = append(l, stringWord(s.Lit))
	default:
		l = append(l, nameWord([]string{"empty", "delim", "body"}[s.Pat-3]))
	}
	for i, m := range s.In {
		l = append(l, parted("in", i), nameWord(m))
	}
	for i, t := range s.Tests {
		l = append(l, parted("when", i))
		for word, k := range plainTests {
			if k == t.Kind {
				l = append(l, nameWord(word))
			}
		}
		if t.Name != "" {
			l = append(l, nameWord(t.Name))
		}
	}
	for i, a := range s.Acts {
		l = append(l, parted("do", i))
		for word, k := range plainActs {
			if k == a.Kind {
				l = append(l, nameWord(word))
			}
		}
		if a.Name != "" {
			l = append(l, nameWord(a.Name))
		}
		if a.Kind == 5 || a.Kind == 7 && a.N >= 0 {
			l = append(l, api.Word{Kind: api.WordNumber, N: a.N})
		}
	}
	return l
}

// parted: what stands ahead of the i-th of a clause.
func parted(first string, i int) api.Word {
	if i == 0 {
		return nameWord(first)
	}
	return signWord(",")
}

// plainPrint: 9.4.
func plainPrint(d api.Defn) (string, api.Errno) {
	if !plainShaped(d) {
		return "", api.ErrShape
	}
	text := ""
	for _, list := range plainLines(d, never) {
		for _, l := range list {
			if depth(l) > 32 {
				return "", api.ErrDeep
			}
			text += words.Join(l) + "\n"
		}
	}
	if len(text) > 16384 {
		return "", api.ErrLong
	}
	return text, api.OK
}

// enough: of each kind at least so many were met.
func enough(t *testing.T, seen map[string]int, least int, kinds ...string) {
	t.Helper()
	for _, k := range kinds {
		if seen[k] < least {
			t.Errorf("too few of the kind %q: %v", k, seen)
		}
	}
}
