package load_test

import (
	"math/rand"
	"slices"
	"strconv"
	"strings"
	"testing"

	"trellis/api"
	"trellis/words"
)

// Texts of definitions of all kinds.

func pick[T any](r *rand.Rand, l ...T) T { return l[r.Intn(len(l))] }

// maker: what a definition is made of. What stands behind an @ may be a token's or a rule's name, too, and so may a literal.
type maker struct {
	*rand.Rand
	tokens, rules, modes, flags, lits, called, fields []string
	used                                              []string // names that stand in expressions
}

func newMaker(r *rand.Rand, n int) *maker {
	m := &maker{Rand: r}
	named := func(stem string, n int) []string {
		var out []string
		for i := range n {
			out = append(out, pick(r, "", "", "_")+stem+strconv.Itoa(i))
		}
		return out
	}
	m.tokens, m.rules = named("t", r.Intn(n+1)), named("r", 1+r.Intn(n))
	m.modes, m.flags = named("m", r.Intn(3)), named("f", r.Intn(3))
	m.lits = []string{"+", "-", "if", "\"\\\x00\xff", "x1"}[:1+r.Intn(5)]
	m.called, m.fields = []string{"c", "_d"}, []string{"f", "g"}
	names := slices.Concat(m.tokens, m.rules)
	if r.Intn(3) == 0 {
		m.called[0] = pick(r, names...)
	}
	if r.Intn(3) == 0 {
		m.lits = append(m.lits, pick(r, names...))
	}
	return m
}

func (m *maker) lit() string {
	return words.Spell(api.Word{Kind: api.WordString, Text: pick(m.Rand, m.lits...)})
}

// lead: what an alternative may begin with, so that it is told from others.
func (m *maker) lead() string { return pick(m.Rand, "", m.lit()+" ", m.lit()+" "+m.lit()+" ") }

func (m *maker) atom() string {
	out := ""
	switch k := m.Intn(12); {
	case k == 0:
		return "()"
	case k < 5:
		out = m.lit()
	default:
		name := pick(m.Rand, slices.Concat(m.tokens, m.tokens, m.rules)...)
		m.used = append(m.used, name)
		out = name
	}
	if m.Intn(4) == 0 {
		out += "@" + pick(m.Rand, m.called...)
	}
	return out
}

// expr: an expression with n operators.
func (m *maker) expr(n int) string {
	if n == 0 {
		return m.atom()
	}
	left := m.Intn(n)
	switch m.Intn(10) {
	case 0, 1, 2, 3, 4:
		return m.expr(left) + " " + m.expr(n-1-left)
	case 5:
		return "(" + m.lead() + m.expr(left) + " | " + m.lead() + m.expr(n-1-left) + ")"
	case 6:
		return m.lead() + m.expr(left) + " | " + m.lead() + m.expr(n-1-left)
	case 7:
		return pick(m.Rand, m.fields...) + ": (" + m.expr(n-1) + ")"
	}
	return "(" + m.expr(n-1) + ")" + pick(m.Rand, "*", "+", "?")
}

func (m *maker) clauses() string {
	out := ""
	if len(m.modes) > 0 && m.Intn(3) == 0 {
		out += " in " + strings.Join(m.modes[m.Intn(len(m.modes)):], ", ")
	}
	if m.Intn(3) == 0 {
		l := []string{"deeper", "shallower, ended", "queued", "unqueued, indented"}
		for _, f := range m.flags {
			l = append(l, "flag "+f, "ended, noflag "+f)
		}
		out += " when " + pick(m.Rand, l...)
	}
	if m.Intn(3) == 0 {
		l := []string{"measure, indent", "dedent", "drop", "enqueue 2", "dequeue", "leave"}
		for _, f := range m.flags {
			l = append(l, "set "+f+", leave", "clear "+f)
		}
		for _, s := range m.modes {
			l = append(l, "enter "+s, "enter "+s+" 1")
		}
		out += " do " + pick(m.Rand, l...)
	}
	return out
}

// ruleLines: rules each of which the first one reaches, and in which all tokens stand. Most of them come to an end.
func (m *maker) ruleLines(ops int) []string {
	m.used = nil
	exprs := make([]string, len(m.rules))
	for i := range exprs {
		exprs[i] = m.expr(m.Intn(ops + 1))
		if m.Intn(4) > 0 {
			exprs[i] += " | " + m.lit()
		}
	}
	more := func(i int, name string) {
		exprs[i] += " | " + m.lead() + name
	}
	for i, name := range m.rules[1:] {
		more(m.Intn(i+1), name)
	}
	for _, name := range m.tokens {
		if !slices.Contains(m.used, name) {
			more(m.Intn(len(exprs)), name)
		}
	}
	var out []string
	for i, e := range exprs {
		out = append(out, "rule "+m.rules[i]+" = "+e+";")
	}
	return out
}

func (m *maker) scanLines() []string {
	var out []string
	for _, name := range slices.Concat(m.tokens, m.tokens[:m.Intn(len(m.tokens)+1)]) {
		out = append(out, "token "+name+" "+pick(m.Rand, "/[a-z]+/", `"k"`, "empty", "delim", "body", `/a|\/b*/`)+m.clauses()+";")
	}
	for range m.Intn(3) {
		out = slices.Insert(out, m.Intn(len(out)+1), "skip "+pick(m.Rand, "/ +/", `"\t"`, "body", "delim")+m.clauses()+";")
	}
	return out
}

// nodeLines: what is said of nodes. Not all of it makes sense: a name may be hidden, or behind no @.
func (m *maker) nodeLines(first string) []string {
	names := slices.Concat(m.tokens, m.rules)
	names = slices.DeleteFunc(append(names, m.called[0], m.called[0], m.called[1]), func(s string) bool { return s[0] == '_' && m.Intn(8) > 0 })
	var out []string
	for range m.Intn(3) {
		if len(names) == 0 {
			break
		}
		name := pick(m.Rand, names...)
		switch first {
		case "paint":
			name = pick(m.Rand, name, m.lit()) + ` "` + pick(m.Rand, "x", "y", "") + `"`
		case "mark":
			name += " " + pick(m.Rand, m.fields...)
		case "inject":
			name += " " + pick(m.Rand, "x", "y")
		}
		out = append(out, first+" "+name+";")
	}
	return out
}

// lines: the lists of a definition's lines.
func (m *maker) lines(ops int) [][]string {
	var modes, flags []string
	for _, s := range m.modes {
		modes = append(modes, "mode "+s+pick(m.Rand, "", " open")+";")
	}
	for _, s := range m.flags {
		flags = append(flags, "flag "+s+";")
	}
	out := [][]string{modes, flags, m.scanLines(), m.ruleLines(ops)}
	for _, first := range []string{"paint", "fold", "mark", "inject"} {
		if m.Intn(3) == 0 {
			out = append(out, m.nodeLines(first))
		}
	}
	return out
}

// mixed: the lines in some order in which those of one list keep theirs.
func mixed(r *rand.Rand, lists [][]string) string {
	left := slices.Clone(lists)
	out := "language l;"
	for len(left) > 0 {
		i := r.Intn(len(left))
		if len(left[i]) == 0 {
			left = slices.Delete(left, i, i+1)
			continue
		}
		out += " " + left[i][0]
		left[i] = left[i][1:]
	}
	return out
}

// anyText: a definition's, which may have flaws and conflicts.
func anyText(r *rand.Rand) string {
	return mixed(r, newMaker(r, 1+r.Intn(4)).lines(r.Intn(7)))
}

func cut(t *testing.T, text string) []api.Word {
	t.Helper()
	l, code, at := words.Cut(text)
	if code != api.OK {
		t.Fatalf("%q: %d at %d", text, code, at)
	}
	return l
}

// laid: the same words in another layout.
func laid(r *rand.Rand, l []api.Word) string {
	gap := func(least string) string {
		return least + pick(r, "", "", " ", "\n\t", "\r\n", "# rule s = \"\n", "#\n ")
	}
	out := gap("")
	for _, w := range l {
		if w.Kind == api.WordSign {
			out += gap("") + w.Text
			continue
		}
		s := words.Spell(w)
		switch w.Kind {
		case api.WordNumber:
			s = pick(r, "", "0", "000") + s
		case api.WordString:
			s = `"`
			for _, b := range []byte(w.Text) {
				s += `\x` + strconv.FormatInt(256+int64(b), 16)[1:]
			}
			s += `"`
		}
		out += gap(" ") + s
	}
	return out + gap("")
}

// spoilt: the text with something amiss in one place or two: a word or a byte.
func spoilt(r *rand.Rand, text string) string {
	for range 1 + r.Intn(2) {
		if len(text) == 0 {
			break
		}
		if r.Intn(3) == 0 {
			at := r.Intn(len(text))
			text = text[:at] + pick(r, "", "\xff", "\"", "/", ";", "(", string([]byte{byte(r.Intn(256))})) + text[at+r.Intn(2):]
			continue
		}
		l, code, _ := words.Cut(text)
		if code != api.OK || len(l) == 0 {
			continue
		}
		i, j := r.Intn(len(l)), r.Intn(len(l))
		for r.Intn(6) > 0 && (l[i].Kind != l[j].Kind || l[i].Kind == api.WordSign) { // two of a kind for the most part: then it is a definition still
			i, j = r.Intn(len(l)), r.Intn(len(l))
		}
		switch pick(r, 0, 1, 1, 1, 1, 2, 2, 3) {
		case 0:
			l = slices.Delete(l, i, i+1)
		case 1:
			l[i] = l[j]
		case 2:
			l[i], l[j] = l[j], l[i]
		case 3:
			l = slices.Insert(l, i, l[j])
		}
		text = words.Join(l)
	}
	return text
}
