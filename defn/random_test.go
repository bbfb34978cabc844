package defn_test

import (
	"math/rand"
	"slices"
	"strconv"
	"strings"

	"trellis/api"
	"trellis/regex"
	"trellis/words"
)

// Definitions and texts of all kinds.

// pick: one of them.
func pick[T any](r *rand.Rand, l ...T) T { return l[r.Intn(len(l))] }

// randomName: a name; no word is reserved, so the words of lines and clauses are names, too.
func randomName(r *rand.Rand) string {
	if r.Intn(2) == 0 {
		return pick(r, "a", "b", "s", "f", "_", "_x", "Z9_", strings.Repeat("n", 24))
	}
	return pick(r, "language", "mode", "open", "flag", "skip", "token", "rule", "paint", "fold", "mark", "inject", "empty", "delim", "body", "in", "when", "do", "deeper", "noflag", "ended", "measure", "enqueue", "enter", "leave", "set")
}

func randomNames(r *rand.Rand, n int) []string {
	var out []string
	for range r.Intn(n + 1) {
		out = append(out, randomName(r))
	}
	return out
}

func randomString(r *rand.Rand) string {
	if r.Intn(3) == 0 {
		out := make([]byte, r.Intn(5))
		r.Read(out)
		return string(out)
	}
	return pick(r, "", "x", "=", "(", ")", ";", "a", "in", "\"", "\\", "\n", "a b", "#", "/", "{", randomName(r))
}

// randomExpr: a tree of about n nodes.
func randomExpr(r *rand.Rand, n int) *expr {
	if n <= 1 {
		switch r.Intn(6) {
		case 0:
			return &expr{op: api.GEmpty}
		case 1, 2:
			return &expr{op: api.GLit, text: randomString(r)}
		}
		return &expr{op: api.GName, text: randomName(r)}
	}
	if n == 2 && r.Intn(2) == 0 {
		leaf := randomExpr(r, 1)
		if leaf.op == api.GEmpty {
			leaf = &expr{op: api.GName, text: randomName(r)}
		}
		return &expr{op: api.GAs, text: randomName(r), kids: []*expr{leaf}}
	}
	switch op := pick(r, api.GSeq, api.GSeq, api.GAlt, api.GStar, api.GPlus, api.GOpt, api.GField); op {
	case api.GSeq, api.GAlt:
		left := 1 + r.Intn(n-1)
		return &expr{op: op, kids: []*expr{randomExpr(r, left), randomExpr(r, n-1-left)}}
	case api.GField:
		return &expr{op: op, text: randomName(r), kids: []*expr{randomExpr(r, n-1)}}
	default:
		return &expr{op: op, kids: []*expr{randomExpr(r, n-1)}}
	}
}

func nodesOf(e *expr) []api.GNode {
	nodes, _ := e.flat(nil, nil)
	return nodes
}

func randomRegex(r *rand.Rand) []api.ReNode {
	re, _, _ := regex.Parse(pick(r, "a", "[a-z]+", "()", `\/|\\`, "[ \\t]+", "(ab)*c?", ".", `[^\x00-\x80]`, `"#;`, "a|b|(c|d)"))
	return re
}

func randomScan(r *rand.Rand) api.ScanDef {
	s := api.ScanDef{Pat: api.PatKind(1 + r.Intn(5)), In: randomNames(r, 3)}
	if r.Intn(3) > 0 {
		s.Term = randomName(r)
	}
	switch s.Pat {
	case api.PatRegex:
		s.Re = randomRegex(r)
	case api.PatLit:
		s.Lit = randomString(r)
	}
	for range r.Intn(4) {
		t := api.TestDef{Kind: api.TestKind(1 + r.Intn(8))}
		if t.Kind == api.TestFlag || t.Kind == api.TestNoFlag {
			t.Name = randomName(r)
		}
		s.Tests = append(s.Tests, t)
	}
	for range r.Intn(4) {
		a := api.ActDef{Kind: api.ActKind(1 + r.Intn(10))}
		if a.Kind == api.ActEnter || a.Kind == api.ActSet || a.Kind == api.ActClear {
			a.Name = randomName(r)
		}
		switch a.Kind {
		case api.ActEnqueue:
			a.N = pick(r, 0, 1, 7, api.MaxNumber)
		case api.ActEnter:
			a.N = pick(r, -1, 0, 1, api.MaxNumber)
		}
		s.Acts = append(s.Acts, a)
	}
	return s
}

// randomDefn: a definition that is well shaped, with at most n lines of each kind.
func randomDefn(r *rand.Rand, n int) api.Defn {
	d := api.Defn{Name: randomName(r), Flags: randomNames(r, n), Folds: randomNames(r, n)}
	for range r.Intn(n + 1) {
		d.Modes = append(d.Modes, api.ModeDef{Name: randomName(r), Open: r.Intn(2) == 0})
	}
	for range r.Intn(n + 1) {
		d.Scans = append(d.Scans, randomScan(r))
	}
	for range r.Intn(n + 1) {
		d.Rules = append(d.Rules, api.RuleDef{Name: randomName(r), Expr: nodesOf(randomExpr(r, 1+r.Intn(9)))})
	}
	for range r.Intn(n + 1) {
		d.Paints = append(d.Paints, api.PaintDef{Name: randomString(r), Class: randomString(r)})
	}
	for range r.Intn(n + 1) {
		d.Marks = append(d.Marks, api.MarkDef{Name: randomName(r), Field: randomName(r)})
	}
	for range r.Intn(n + 1) {
		d.Injects = append(d.Injects, api.InjectDef{Name: randomName(r), Lang: randomName(r)})
	}
	return d
}

// shuffled: a definition's words, its lines mixed, but that those of one list keep their order; with brackets that change nothing.
func shuffled(r *rand.Rand, d api.Defn) []api.Word {
	lists := plainLines(d, func() bool { return r.Intn(5) == 0 })
	out := lists[0][0]
	for lists = lists[1:]; len(lists) > 0; {
		i := r.Intn(len(lists))
		if len(lists[i]) == 0 {
			lists = slices.Delete(lists, i, i+1)
			continue
		}
		out = append(out, lists[i][0]...)
		lists[i] = lists[i][1:]
	}
	return out
}

// laid: a text of these words, in one of the ways in which they can be written; and where each of them stands.
func laid(r *rand.Rand, l []api.Word) (string, []int) {
	text := randomGap(r)
	var places []int
	for i, w := range l {
		if i > 0 && meet(l[i-1], w) {
			text += pick(r, " ", "\n", "\t", "\r", "#\n")
		}
		places = append(places, len(text))
		text += randomSpell(r, w) + randomGap(r)
	}
	return text, places
}

// meet: would the two be one word without something between them?
func meet(a, b api.Word) bool {
	return a.Kind == api.WordName && (b.Kind == api.WordName || b.Kind == api.WordNumber) || a.Kind == api.WordNumber && b.Kind == api.WordNumber
}

func randomGap(r *rand.Rand) string {
	if r.Intn(2) == 0 {
		return ""
	}
	return pick(r, " ", "\n", "\t", "\r\n", "  ", "# ; \"\n", "#\n", " \n ")
}

func randomSpell(r *rand.Rand, w api.Word) string {
	switch w.Kind {
	case api.WordNumber:
		return strings.Repeat("0", r.Intn(3)) + strconv.Itoa(w.N)
	case api.WordString:
		out := ""
		for _, b := range []byte(w.Text) {
			if b != '"' && b != '\\' && b != '\n' && r.Intn(3) > 0 {
				out += string([]byte{b})
				continue
			}
			out += `\x` + pick(r, strings.ToUpper, strings.ToLower)(strconv.FormatInt(int64(b)+256, 16)[1:])
		}
		return `"` + out + `"`
	case api.WordRegex:
		return "/" + w.Text + "/" // as it stands, sound or not as a pattern
	}
	return words.Spell(w)
}

// randomWord: any word with which a definition's text may have to do.
func randomWord(r *rand.Rand) api.Word {
	switch r.Intn(6) {
	case 0, 1:
		return signWord(pick(r, strings.Split("{}()|*+?:;,=@", "")...))
	case 2:
		return stringWord(randomString(r))
	case 3:
		return api.Word{Kind: api.WordRegex, Text: pick(r, "a", "a(", "[b-a]", "", strings.Repeat("a", 65), `\q`, "[a-z]+", "\xff")}
	case 4:
		return api.Word{Kind: api.WordNumber, N: pick(r, 0, 1, api.MaxNumber)}
	}
	return nameWord(randomName(r))
}

// spoilt: the words with something that is amiss in one place.
func spoilt(r *rand.Rand, l []api.Word) []api.Word {
	i, j := r.Intn(len(l)), r.Intn(len(l))
	out := slices.Clone(l)
	switch r.Intn(7) {
	case 0:
		return slices.Delete(out, i, i+1)
	case 1:
		return out[:i]
	case 2:
		out[i], out[j] = out[j], out[i]
		return out
	case 3:
		out[i] = randomWord(r)
		return out
	case 4:
		i = max(0, slices.IndexFunc(out, func(w api.Word) bool { return isSign(w, "=") })) + 1
		return slices.Insert(out, i, slices.Repeat([]api.Word{signWord("(")}, 16+r.Intn(40))...)
	case 5:
		if i = slices.IndexFunc(out, func(w api.Word) bool { return w.Kind == api.WordRegex }); i >= 0 {
			out[i].Text = pick(r, "", "a(", "[b-a]", "[^\\x00-\\xff]", "*", strings.Repeat("ab", 33), `a\q`, "\xff", "a|", "[a-]", strings.Repeat("(", 129))
		}
		return out
	}
	return slices.Insert(out, i, randomWord(r))
}
