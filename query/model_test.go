package query_test

import (
	"regexp"
	"slices"
	"strings"

	"trellis/api"
	"trellis/query"
	"trellis/words"
)

// What the tests of this package share: the chapter's words told plainly.

// answer: what Parse answers.
type answer struct {
	query api.Query
	code  api.Errno
	place int
}

func read(text string) answer {
	q, code, at := query.Parse(text)
	return answer{q, code, at}
}

func sameQuery(a, b api.Query) bool {
	return slices.Equal(a.Nodes, b.Nodes) && slices.Equal(a.Conds, b.Conds)
}

func same(a, b answer) bool {
	return a.code == b.code && a.place == b.place && sameQuery(a.query, b.query)
}

// plainGrammar: the chapter's lines: what stands in angles are its own names, capitals kinds of words, all else words that stand there.
const plainGrammar = `
<query> <pattern> <conds>
<conds>
<conds> <cond> <conds>
<pattern> FIELD : <node> <capture>
<pattern> <node> <capture>
<node> ( NAME <patterns> )
<node> TEXT
<patterns>
<patterns> <pattern> <patterns>
<capture>
<capture> @ CAPTURE
<cond> when @ CAPTURE = <other>
<cond> unless @ CAPTURE = <other>
<other> @ CAPTURE
<other> STRING`

// becomes: by name of the grammar what it may become.
var becomes = func() map[string][][]string {
	out := map[string][][]string{}
	for _, line := range strings.Split(plainGrammar, "\n")[1:] {
		f := strings.Fields(line)
		out[f[0]] = append(out[f[0]], f[1:])
	}
	return out
}()

// stacks: what may come, in each of the ways in which a query may go on: the next one first.
type stacks [][]string

// unfold: the stacks with a word first, or with nothing.
func (l stacks) unfold() stacks {
	var out stacks
	for len(l) > 0 {
		s := l[0]
		l = l[1:]
		if len(s) == 0 || becomes[s[0]] == nil {
			out = append(out, s)
			continue
		}
		for _, row := range becomes[s[0]] {
			l = append(l, slices.Concat(row, s[1:]))
		}
	}
	return out
}

// step: the stacks behind a word, given the one behind it, too.
func (l stacks) step(w, behind api.Word) stacks {
	var out stacks
	for _, s := range l.unfold() {
		if len(s) > 0 && stands(s[0], w, behind) {
			out = append(out, s[1:])
		}
	}
	return out
}

func (l stacks) whole() bool {
	return slices.ContainsFunc(l.unfold(), func(s []string) bool { return len(s) == 0 })
}

func isSign(w api.Word, text string) bool { return w.Kind == api.WordSign && w.Text == text }

func isName(w api.Word, text string) bool { return w.Kind == api.WordName && w.Text == text }

func stands(kind string, w, behind api.Word) bool {
	own := w.Kind == api.WordName && w.Text != "_"
	switch kind {
	case "FIELD":
		return own && isSign(behind, ":")
	case "CAPTURE":
		return own
	case "NAME":
		return w.Kind == api.WordName
	case "TEXT":
		return w.Kind == api.WordString && w.Text != ""
	case "STRING":
		return w.Kind == api.WordString
	}
	return isSign(w, kind) || isName(w, kind)
}

// beginsCond: does a condition begin with the last of the words?
func beginsCond(l []api.Word) bool {
	last := len(l) - 1
	open := 0
	for _, w := range l {
		if isSign(w, "(") {
			open++
		}
		if isSign(w, ")") {
			open--
		}
	}
	return last > 0 && open == 0 && !isSign(l[last-1], "@") && (isName(l[last], "when") || isName(l[last], "unless"))
}

// beginsPattern: does a pattern begin with the last of the words, given the one behind it?
func beginsPattern(l []api.Word, behind api.Word) bool {
	last := len(l) - 1
	var ahead api.Word
	if last > 0 {
		ahead = l[last-1]
	}
	if isSign(l[last], "(") || l[last].Kind == api.WordString {
		return !isSign(ahead, ":") && !isSign(ahead, "=")
	}
	return l[last].Kind == api.WordName && isSign(behind, ":") && !isSign(ahead, "(") && !isSign(ahead, "@") && !beginsCond(l)
}

// tally: of the words of a query's beginning how many patterns and conditions they begin, and the error of which the last one is the place.
type tally struct {
	patterns, conds int
	captures        []string
}

func (c *tally) next(l []api.Word, behind api.Word) api.Errno {
	last := len(l) - 1
	if beginsPattern(l, behind) {
		c.patterns++
	}
	if beginsCond(l) {
		c.conds++
	}
	if c.patterns > 32 || c.conds > 16 {
		return api.ErrPatterns
	}
	if last == 0 || !isSign(l[last-1], "@") {
		return api.OK
	}
	if slices.Contains(c.captures, l[last].Text) != (c.conds > 0) {
		return api.ErrCapture
	}
	c.captures = append(c.captures, l[last].Text)
	return api.OK
}

// plainParse: what 20.1 says of a text.
func plainParse(text string) answer {
	l, code, at := words.Cut(text)
	if code != api.OK {
		return answer{code: code, place: at}
	}
	way, count := stacks{{"<query>"}}, tally{}
	ended := append(slices.Clone(l), api.Word{})
	for i, w := range l {
		behind := ended[i+1]
		if way = way.step(w, behind); len(way) == 0 {
			return answer{code: api.ErrQuery, place: w.At}
		}
		if e := count.next(l[:i+1], behind); e != api.OK {
			return answer{code: e, place: w.At}
		}
	}
	if !way.whole() {
		return answer{code: api.ErrQuery, place: len(text)}
	}
	return answer{query: plainQuery(l)}
}

// plainQuery: what the words of a query say.
func plainQuery(l []api.Word) api.Query {
	var q api.Query
	var open []int
	var field string
	last := -1 // the node that has ended last
	add := func(n api.PatNode) int {
		if len(open) > 0 {
			q.Nodes[open[len(open)-1]].Kids++
		}
		n.Field, field = field, ""
		q.Nodes = append(q.Nodes, n)
		return len(q.Nodes) - 1
	}
	for i, w := range l {
		switch {
		case beginsCond(l[:i+1]):
			c := api.Cond{Not: w.Text == "unless", A: l[i+2].Text}
			if isSign(l[i+4], "@") {
				c.B = l[i+5].Text
			} else {
				c.Text = l[i+4].Text
			}
			q.Conds = append(q.Conds, c)
		case len(q.Conds) > 0:
		case isSign(w, ":"):
			field = l[i-1].Text
		case isSign(w, "("):
			n := api.PatNode{Name: l[i+1].Text}
			if n.Name == "_" {
				n.Name = ""
			}
			open = append(open, add(n))
		case isSign(w, ")"):
			last = open[len(open)-1]
			open = open[:len(open)-1]
		case w.Kind == api.WordString:
			last = add(api.PatNode{Lit: true, Name: w.Text})
		case isSign(w, "@"):
			q.Nodes[last].Capture = l[i+1].Text
		}
	}
	return q
}

// grown: by node its children, of a list of nodes told by how many children each has; and how many roots there are, -1 if it is no list of trees.
func grown(kids []int) ([][]int, int) {
	out := make([][]int, len(kids))
	var take func(at int) int // the place behind the subtree, -1 if there is none
	take = func(at int) int {
		if at >= len(kids) || kids[at] < 0 || kids[at] > len(kids) {
			return -1
		}
		next := at + 1
		for range kids[at] {
			out[at] = append(out[at], next)
			if next = take(next); next < 0 {
				return -1
			}
		}
		return next
	}
	roots := 0
	for at := 0; at < len(kids); roots++ {
		if at = take(at); at < 0 {
			return nil, -1
		}
	}
	return out, roots
}

func patternKids(l []api.PatNode) []int {
	var out []int
	for _, n := range l {
		out = append(out, n.Kids)
	}
	return out
}

func treeKids(l []api.Node) []int {
	var out []int
	for _, n := range l {
		out = append(out, n.Kids)
	}
	return out
}

var aName = regexp.MustCompile(`\A[A-Za-z_][A-Za-z_0-9]{0,23}\z`)

func plainName(text string) bool { return text != "_" && aName.MatchString(text) }

// plainShaped: what 20.2 says.
func plainShaped(q api.Query) bool {
	if _, roots := grown(patternKids(q.Nodes)); roots != 1 || len(q.Nodes) > 32 || len(q.Conds) > 16 {
		return false
	}
	captures := map[string]int{}
	for _, n := range q.Nodes {
		fine := n.Name == "" || plainName(n.Name)
		if n.Lit {
			fine = len(n.Name) > 0 && n.Kids == 0
		}
		if !fine || n.Field != "" && !plainName(n.Field) || n.Capture != "" && !plainName(n.Capture) {
			return false
		}
		captures[n.Capture]++
		if n.Capture != "" && captures[n.Capture] > 1 {
			return false
		}
	}
	captures[""] = 0
	for _, c := range q.Conds {
		if captures[c.A] == 0 || c.B != "" && (captures[c.B] == 0 || c.Text != "") {
			return false
		}
	}
	return true
}

// plainPrint: what 20.3 says of a shaped query.
func plainPrint(q api.Query) string {
	kids, _ := grown(patternKids(q.Nodes))
	quoted := func(text string) string { return words.Spell(api.Word{Kind: api.WordString, Text: text}) }
	var written func(at int) string
	written = func(at int) string {
		n := q.Nodes[at]
		out := "( _"
		if n.Name != "" {
			out = "( " + n.Name
		}
		for _, kid := range kids[at] {
			out += " " + written(kid)
		}
		out += " )"
		if n.Lit {
			out = quoted(n.Name)
		}
		if n.Field != "" {
			out = n.Field + " : " + out
		}
		if n.Capture != "" {
			out += " @ " + n.Capture
		}
		return out
	}
	out := written(0)
	for _, c := range q.Conds {
		other := quoted(c.Text)
		if c.B != "" {
			other = "@ " + c.B
		}
		out += map[bool]string{false: " when", true: " unless"}[c.Not] + " @ " + c.A + " = " + other
	}
	return out
}

// wood: a pattern and a list of trees, each with the children of its nodes.
type wood struct {
	pattern []api.PatNode
	parts   [][]int
	nodes   []api.Node
	kids    [][]int
}

// ways: all ways in which the pattern's node p, and what is below it, may be laid on the node v and nodes below that, each child on a child of its own, in their order: by node of that part of the pattern, in their order, the node it is laid on.
func (w wood) ways(p, v int) [][]int {
	a, b := w.pattern[p], w.nodes[v]
	called := a.Name == "" || b.Named && a.Name == b.Name
	if a.Lit {
		called = !b.Named && a.Name == b.Name
	}
	if !called || a.Field != "" && a.Field != b.Field {
		return nil
	}
	var out [][]int
	for _, rest := range w.rows(w.parts[p], w.kids[v]) {
		out = append(out, append([]int{v}, rest...))
	}
	return out
}

// rows: all ways of the children of a node of the pattern among those of a node.
func (w wood) rows(parts, kids []int) [][]int {
	if len(parts) == 0 {
		return [][]int{nil}
	}
	var out [][]int
	for i, kid := range kids {
		for _, one := range w.ways(parts[0], kid) {
			for _, rest := range w.rows(parts[1:], kids[i+1:]) {
				out = append(out, slices.Concat(one, rest))
			}
		}
	}
	return out
}

// plainBytes: a node's bytes, one by one.
func plainBytes(text string, n api.Node) string {
	var out []byte
	for at, b := range []byte(text) {
		if n.From <= at && at < n.To {
			out = append(out, b)
		}
	}
	return string(out)
}

// plainHolds: does a condition hold of a match?
func plainHolds(q api.Query, c api.Cond, match []int, t []api.Node, text string) bool {
	bytes := func(capture string) string {
		for i, n := range q.Nodes {
			if n.Capture == capture {
				return plainBytes(text, t[match[i]])
			}
		}
		panic("no such capture")
	}
	if c.B != "" {
		return (bytes(c.A) == bytes(c.B)) != c.Not
	}
	return (bytes(c.A) == c.Text) != c.Not
}

// plainAll: what 20.5 says: of all ways to lay the pattern on a node that with the first children, if the conditions hold of it.
func plainAll(q api.Query, t []api.Node, text string) [][]int {
	kids, roots := grown(treeKids(t))
	if !plainShaped(q) || roots < 0 {
		return nil
	}
	w := wood{q.Nodes, nil, t, kids}
	w.parts, _ = grown(patternKids(q.Nodes))
	var out [][]int
	for v := range t {
		ways := w.ways(0, v)
		if len(ways) == 0 {
			continue
		}
		first := slices.MinFunc(ways, slices.Compare[[]int])
		if !slices.ContainsFunc(q.Conds, func(c api.Cond) bool { return !plainHolds(q, c, first, t, text) }) {
			out = append(out, first)
		}
	}
	return out
}

// found: the matches as plain lists.
func found(l []api.Found) [][]int {
	var out [][]int
	for _, f := range l {
		out = append(out, f.Nodes)
	}
	return out
}

func sameLists(a, b [][]int) bool { return slices.EqualFunc(a, b, slices.Equal[[]int]) }
