package query_test

import (
	"math"
	"math/rand"
	"slices"
	"strconv"
	"strings"
	"testing"

	"trellis/api"
	"trellis/words"
)

// Queries, trees and texts of all kinds.

// enough: fails if one of the kinds has come up too seldom for the test to tell anything.
func enough(t *testing.T, seen map[string]int, least int, kinds ...string) {
	t.Helper()
	for _, k := range kinds {
		if seen[k] < least {
			t.Errorf("only %d of %q: %v", seen[k], k, seen)
		}
	}
}

// pick: one of them.
func pick[T any](r *rand.Rand, l ...T) T { return l[r.Intn(len(l))] }

// randomName: a name that a field or a capture may have; no word is reserved.
func randomName(r *rand.Rand) string {
	return pick(r, "a", "b", "f", "x", "y", "when", "unless", "_x", "__", "Z9_", "language", strings.Repeat("n", 24), "c"+strconv.Itoa(r.Intn(50)))
}

func randomString(r *rand.Rand) string {
	if r.Intn(3) == 0 {
		out := make([]byte, r.Intn(5))
		r.Read(out)
		return string(out)
	}
	return pick(r, "", "x", "=", "(", "@", "_", "when", "\"", "\\", "\n", "a b", "#", "/", randomName(r))
}

// randomShape: how many children each of n nodes of one tree has, each ahead of its children.
func randomShape(r *rand.Rand, n int) []int {
	if n == 1 {
		return []int{0}
	}
	out := []int{0}
	for left := n - 1; left > 0; out[0]++ {
		size := 1 + r.Intn(left)
		out = append(out, randomShape(r, size)...)
		left -= size
	}
	return out
}

// randomQuery: a query that is well shaped, with at most so many nodes and conditions.
func randomQuery(r *rand.Rand, nodes, conds int) api.Query {
	var q api.Query
	var captures []string
	for _, kids := range randomShape(r, 1+r.Intn(nodes)) {
		n := api.PatNode{Kids: kids}
		if r.Intn(4) > 0 {
			n.Name = randomName(r)
		}
		if kids == 0 && r.Intn(2) == 0 {
			n.Lit, n.Name = true, "-"+randomString(r)
			if r.Intn(2) == 0 {
				n.Name = pick(r, "(", "_", "x", "when", "\n")
			}
		}
		if r.Intn(3) == 0 {
			n.Field = randomName(r)
		}
		if name := randomName(r); r.Intn(2) == 0 && !slices.Contains(captures, name) {
			n.Capture = name
			captures = append(captures, name)
		}
		q.Nodes = append(q.Nodes, n)
	}
	for range r.Intn(conds + 1) {
		if len(captures) == 0 {
			break
		}
		c := api.Cond{Not: r.Intn(2) == 0, A: pick(r, captures...)}
		if r.Intn(2) == 0 {
			c.B = pick(r, captures...)
		} else {
			c.Text = randomString(r)
		}
		q.Conds = append(q.Conds, c)
	}
	return q
}

// plainWords: a query's words.
func plainWords(q api.Query) []api.Word { return wordsOf(plainPrint(q)) }

// laid: a text of these words, in one of the ways in which they can be written; and where each of them stands.
func laid(r *rand.Rand, l []api.Word) (string, []int) {
	text := randomGap(r)
	var places []int
	for i, w := range l {
		if i > 0 && l[i-1].Kind != api.WordSign && w.Kind != api.WordSign {
			text += pick(r, " ", "\n", "\t", "\r", "#\n")
		}
		places = append(places, len(text))
		text += randomSpell(r, w) + randomGap(r)
	}
	return text, places
}

func randomGap(r *rand.Rand) string {
	if r.Intn(2) == 0 {
		return ""
	}
	return pick(r, " ", "\n", "\t", "\r\n", "  ", "# ( \"\n", "#\n", " \n ")
}

func randomSpell(r *rand.Rand, w api.Word) string {
	if w.Kind != api.WordString {
		return words.Spell(w)
	}
	out := ""
	for _, b := range []byte(w.Text) {
		if b != '"' && b != '\\' && b != '\n' && r.Intn(3) > 0 {
			out += string([]byte{b})
			continue
		}
		out += `\x` + pick(r, strings.ToUpper, strings.ToLower)(strconv.FormatInt(int64(b)+256, 16)[1:])
	}
	return `"` + out + `"`
}

// spoilt: the words with something that is amiss in one place, or not.
func spoilt(r *rand.Rand, l []api.Word) []api.Word {
	if len(l) == 0 {
		return wordsOf("(")
	}
	i, j := r.Intn(len(l)), r.Intn(len(l))
	any := pick(r, wordsOf(`( ) ( ) : @ = a b _ when unless "x" "" 7 /r/ | ;`)...)
	out := slices.Clone(l)
	switch r.Intn(8) {
	case 0:
		return slices.Delete(out, i, i+1)
	case 1:
		return out[:i]
	case 2:
		out[i], out[j] = out[j], out[i]
	case 3:
		out[i] = any
	case 4:
		return slices.Insert(out, i, any)
	case 5:
		if k := slices.IndexFunc(out[i:], func(w api.Word) bool { return isSign(w, ")") }); k >= 0 {
			more := pick(r, `"k"`, `f: "k" @k`, "(k)", "f:(k (k))", `"" f`, strings.Repeat(`"k"`, r.Intn(40)), strings.Repeat("f:(k)", r.Intn(40)))
			return slices.Insert(out, i+k, wordsOf(more)...)
		}
	case 6:
		return append(out, wordsOf(pick(r, `when @x = ""`, `unless @x = @y`, "when", "unless @x", `when @_ = ""`, "@x", "@k", strings.Repeat("when @x = @x ", r.Intn(20))))...)
	case 7:
		k := slices.IndexFunc(out[i:], func(w api.Word) bool { return isSign(w, "@") })
		if k >= 0 && i+k+1 < len(out) {
			out[i+k+1].Text = randomName(r)
		}
	}
	return out
}

// randomTrees: a list of trees with n nodes over a text, of few names.
func randomTrees(r *rand.Rand, n int, text string) []api.Node {
	var out []api.Node
	for len(out) < n {
		for _, kids := range randomShape(r, 1+r.Intn(n-len(out))) {
			from := r.Intn(len(text) + 1)
			out = append(out, api.Node{Name: pick(r, "a", "b"), Named: r.Intn(3) > 0, Field: pick(r, "", "", "f", "g"), From: from, To: from + r.Intn(3), Kids: kids, Leaf: -1})
		}
	}
	return out
}

// randomPattern: a query with n nodes, of the names of randomTrees.
func randomPattern(r *rand.Rand, n int) api.Query {
	var q api.Query
	for i, kids := range randomShape(r, n) {
		p := api.PatNode{Name: pick(r, "", "", "", "a", "b"), Field: pick(r, "", "", "", "", "", "f", "g"), Capture: "c" + strconv.Itoa(i), Kids: kids}
		if kids == 0 && p.Name != "" && r.Intn(3) == 0 {
			p.Lit = true
		}
		q.Nodes = append(q.Nodes, p)
	}
	for range r.Intn(3) {
		c := api.Cond{Not: r.Intn(2) == 0, A: "c" + strconv.Itoa(r.Intn(n))}
		if r.Intn(2) == 0 {
			c.B = "c" + strconv.Itoa(r.Intn(n))
		} else {
			c.Text = pick(r, "", "x", "y", "xx", "xy")
		}
		q.Conds = append(q.Conds, c)
	}
	return q
}

// anyNumber: a number of which few make sense.
func anyNumber(r *rand.Rand) int {
	return pick(r, 0, 1, 2, 3, -1, r.Intn(40), math.MaxInt, math.MinInt, math.MaxInt-1, 1<<62, 1<<32)
}

// spoiltQuery: the query with something that is amiss in one place, or not.
func spoiltQuery(r *rand.Rand, q api.Query) api.Query {
	q = api.Query{Nodes: slices.Clone(q.Nodes), Conds: slices.Clone(q.Conds)}
	text := pick(r, "", "_", "a", "b", "a b", "9a", "ä", "a\n", "(", strings.Repeat("n", 24), strings.Repeat("n", 25), "a\x00", randomName(r))
	if len(q.Nodes) == 0 {
		return q
	}
	n := &q.Nodes[r.Intn(len(q.Nodes))]
	switch r.Intn(11) {
	case 0:
		n.Name = text
	case 1:
		n.Field = text
	case 2:
		n.Capture = text
	case 3:
		n.Kids = anyNumber(r)
	case 4:
		n.Lit = !n.Lit
	case 5:
		n.Capture = q.Nodes[r.Intn(len(q.Nodes))].Capture
	case 6:
		q.Nodes = append(q.Nodes, api.PatNode{Name: text})
	case 7:
		q.Nodes = q.Nodes[:len(q.Nodes)-1]
	case 8:
		q.Conds = append(q.Conds, api.Cond{A: text, B: pick(r, "", text), Text: pick(r, "", "x")})
	case 9:
		q.Conds = slices.Repeat(q.Conds, 1+r.Intn(17))
	case 10:
		if len(q.Conds) > 0 {
			c := &q.Conds[r.Intn(len(q.Conds))]
			*pick(r, &c.A, &c.B, &c.Text) = text
		}
	}
	return q
}
