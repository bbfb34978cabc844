package defn

import (
	"strings"

	"trellis/api"
	"trellis/regex"
	"trellis/words"
)

func name(text string) api.Word { return api.Word{Kind: api.WordName, Text: text} }

func quote(text string) api.Word { return api.Word{Kind: api.WordString, Text: text} }

func sign(text string) api.Word { return api.Word{Kind: api.WordSign, Text: text} }

func number(n int) api.Word { return api.Word{Kind: api.WordNumber, N: n} }

// chosen: the word of that place among these.
func chosen(of string, i int) api.Word { return name(strings.Fields(of)[i]) }

// page: lines that have been written.
type page struct{ text []byte }

// line writes a line. A page that is too long already grows no further: it is refused whatever comes.
func (p *page) line(l ...api.Word) {
	if len(p.text) > api.MaxDefn {
		return
	}
	p.text = append(p.text, words.Join(append(l, sign(";")))...)
	p.text = append(p.text, '\n')
}

// definition writes a well shaped one, given the words of its rules' expressions.
func (p *page) definition(d api.Defn, exprs [][]api.Word) {
	p.line(name("language"), name(d.Name))
	for _, m := range d.Modes {
		p.line(modeWords(m)...)
	}
	for _, f := range d.Flags {
		p.line(name("flag"), name(f))
	}
	for _, s := range d.Scans {
		p.line(scanWords(s)...)
	}
	for i, r := range d.Rules {
		p.line(append([]api.Word{name("rule"), name(r.Name), sign("=")}, exprs[i]...)...)
	}
	for _, x := range d.Paints {
		p.line(name("paint"), calledWord(x.Name), quote(x.Class))
	}
	for _, f := range d.Folds {
		p.line(name("fold"), name(f))
	}
	for _, m := range d.Marks {
		p.line(name("mark"), name(m.Name), name(m.Field))
	}
	for _, j := range d.Injects {
		p.line(name("inject"), name(j.Name), name(j.Lang))
	}
}

func modeWords(m api.ModeDef) []api.Word {
	out := []api.Word{name("mode"), name(m.Name)}
	if m.Open {
		out = append(out, name("open"))
	}
	return out
}

// calledWord: what the nodes of a paint line are called: a token or rule, if it can be one.
func calledWord(text string) api.Word {
	if isName(text) {
		return name(text)
	}
	return quote(text)
}

func scanWords(s api.ScanDef) []api.Word {
	out := []api.Word{name("skip")}
	if s.Term != "" {
		out = []api.Word{name("token"), name(s.Term)}
	}
	out = append(out, patternWord(s))
	out = clause(out, "in", s.In, func(mode string) []api.Word { return []api.Word{name(mode)} })
	out = clause(out, "when", s.Tests, wordsOfTest)
	return clause(out, "do", s.Acts, wordsOfAct)
}

func patternWord(s api.ScanDef) api.Word {
	switch s.Pat {
	case api.PatRegex:
		text, _ := regex.Print(s.Re)
		return api.Word{Kind: api.WordRegex, Text: text}
	case api.PatLit:
		return quote(s.Lit)
	}
	return chosen(patternWords, int(s.Pat-api.PatEmpty))
}

// clause: what stands in it, behind the line's words so far; it is left out if nothing does.
func clause[T any](line []api.Word, first string, l []T, spell func(T) []api.Word) []api.Word {
	ahead := name(first)
	for _, x := range l {
		line = append(append(line, ahead), spell(x)...)
		ahead = sign(",")
	}
	return line
}

func wordsOfTest(t api.TestDef) []api.Word {
	out := []api.Word{chosen(testWords, int(t.Kind-1))}
	if testNamed(t.Kind) {
		out = append(out, name(t.Name))
	}
	return out
}

func wordsOfAct(a api.ActDef) []api.Word {
	out := []api.Word{chosen(actWords, int(a.Kind-1))}
	if actNamed(a.Kind) {
		out = append(out, name(a.Name))
	}
	if a.Kind == api.ActEnqueue || a.Kind == api.ActEnter && a.N != -1 {
		out = append(out, number(a.N))
	}
	return out
}
