package regex_test

import (
	"math/rand"
	"slices"
	"strings"
	"testing"

	"trellis/api"
	"trellis/regex"
)

func printed(t *testing.T, re []api.ReNode) string {
	t.Helper()
	text, code := regex.Print(re)
	if code != api.OK {
		t.Fatalf("4.2: Print(%v): %d", re, code)
	}
	return text
}

// 4.2: what the document's texts become.
func TestPrintTexts(t *testing.T) {
	for text, want := range map[string]string{
		"(a)(b(c))":          "a(bc)",
		"(a|b)*":             "(a|b)*",
		"(a|b)+":             "(a|b)+",
		"(a|b)?":             "(a|b)?",
		"(ab)+c":             "(ab)+c",
		"(ab)*":              "(ab)*",
		"(ab)?":              "(ab)?",
		"((a|b)|c)|(d|e)":    "a|b|c|(d|e)",
		"(a*)?":              "a*?",
		"((a+)*)?":           "a+*?",
		"()":                 "()",
		"(())*":              "()*",
		"()()|()":            "()()|()",
		"(ab)c":              "abc",
		"a(bc)":              "a(bc)",
		"(ab)|(cd)":          "ab|cd",
		"(a|b)c":             "(a|b)c",
		"a(b|c)":             "a(b|c)",
		"(a|b)(c|d)":         "(a|b)(c|d)",
		"(ab)(cd)":           "ab(cd)",
		"(a*)(b*)":           "a*b*",
		"(a*)|(b?)":          "a*|b?",
		"[a]":                "a",
		"[ab]":               "[a-b]",
		"[abc.]":             "[.a-c]",
		"[ca]":               "[ac]",
		`\d`:                 "[0-9]",
		`\w`:                 "[0-9A-Z_a-z]",
		`\s`:                 `[\t-\n\r ]`,
		`[^\n]`:              ".",
		"[^a]":               "[^a]",
		`[^\d]`:              "[^0-9]",
		`[\x00-\xff]`:        `[\x00-\xff]`,
		`[\-\]]`:             `[\-\]]`,
		`[\--\]]`:            `[\--\]]`,
		`[\[-\^]`:            `[\[-\^]`,
		`[|*+?().]`:          `[(-+.?|]`,
		`[\x00-\x7f]`:        `[\x00-\x7f]`,
		`[\x00-\x80]`:        `[^\x81-\xff]`,
		`[^\x00-\x7f]`:       `[\x80-\xff]`,
		`[^\x00-\x7e]`:       `[^\x00-~]`,
		`[\x00-\x09\x0b-\r]`: `[\x00-\t\x0b-\r]`,
		`[^\n\x0b]`:          `[^\n-\x0b]`,
		`[^\x00\xff]`:        `[^\x00\xff]`,
		`\x0a`:               `\n`,
		`\x2d\x5e`:           "-^",
		`\xAB`:               `\xab`,
	} {
		if got := printed(t, taken(t, text)); got != want {
			t.Errorf("4.2: Print of %q = %q, want %q", text, got, want)
		}
	}
}

// inClass: a byte as 4.2 writes it in a class.
func inClass(b int) string {
	const digits = "0123456789abcdef"
	s := string([]byte{byte(b)})
	switch {
	case b == 10:
		return `\n`
	case b == 9:
		return `\t`
	case b == 13:
		return `\r`
	case b == '\\' || b == '/' || b == '[' || b == ']' || b == '-' || b == '^':
		return "\\" + s
	case b >= 32 && b < 127:
		return s
	}
	return `\x` + digits[b/16:b/16+1] + digits[b%16:b%16+1]
}

// alone: a byte as 4.2 writes it outside a class.
func alone(b int) string {
	switch {
	case b == '-' || b == '^':
		return string([]byte{byte(b)})
	case strings.IndexByte("|*+?().", byte(b)) >= 0:
		return "\\" + string([]byte{byte(b)})
	}
	return inClass(b)
}

// classText: a class as 4.2 writes it, byte by byte.
func classText(c api.Class) string {
	var in, out []int
	for b := range 256 {
		if c.Has(byte(b)) {
			in = append(in, b)
		} else {
			out = append(out, b)
		}
	}
	text := "["
	switch {
	case len(in) == 1:
		return alone(in[0])
	case slices.Equal(out, []int{10}):
		return "."
	case len(in) > 128 && len(out) > 0:
		text, in = "[^", out
	}
	for len(in) > 0 {
		n := 1
		for n < len(in) && in[n] == in[0]+n {
			n++
		}
		text += inClass(in[0])
		if n > 1 {
			text += "-" + inClass(in[n-1])
		}
		in = in[n:]
	}
	return text + "]"
}

// 4.2, 4.4: single bytes, pairs of bytes, all but them, all runs, and sets at random.
func TestPrintClasses(t *testing.T) {
	try := func(c api.Class) {
		if c == (api.Class{}) {
			return
		}
		re := []api.ReNode{{Op: api.ReClass, Set: c, A: -1, B: -1}}
		text := printed(t, re)
		if want := classText(c); text != want {
			t.Fatalf("4.2: Print of the class %x = %q, want %q", c, text, want)
		}
		if back := taken(t, text); !slices.Equal(back, re) {
			t.Fatalf("4.4: %q is read as %v, not %v", text, back, re)
		}
	}
	for i := range 256 {
		for j := i; j < 256; j++ {
			try(setOf(func(b int) bool { return b == i || b == j }))
			try(setOf(func(b int) bool { return b != i && b != j }))
			try(setOf(func(b int) bool { return b >= i && b <= j }))
			try(setOf(func(b int) bool { return b < i || b > j }))
		}
	}
	r := rand.New(rand.NewSource(42))
	for range 3000 {
		try(randomClass(r).Set)
		n := 126 + r.Intn(5)
		var c api.Class
		for _, b := range r.Perm(256)[:n] {
			c[b/64] |= 1 << (b % 64)
		}
		try(c)
	}
}

// bracketed: the places of the round brackets in a text, in pairs, but for those of ().
func bracketed(text string) [][2]int {
	var open []int
	var pairs [][2]int
	class := false
	for i := 0; i < len(text); i++ {
		switch {
		case text[i] == '\\':
			i++
		case class:
			class = text[i] != ']'
		case text[i] == '[':
			class = true
		case text[i] == '(':
			open = append(open, i)
		case text[i] == ')':
			from := open[len(open)-1]
			open = open[:len(open)-1]
			if i > from+1 {
				pairs = append(pairs, [2]int{from, i})
			}
		}
	}
	return pairs
}

// 4.2, 4.4: the text is read as the same tree, and without any of its brackets it is not.
func mustBracket(t *testing.T, re []api.ReNode) {
	t.Helper()
	text := printed(t, re)
	if back := taken(t, text); !slices.Equal(back, re) {
		t.Fatalf("4.4: %q is read as %v, not %v", text, back, re)
	}
	for _, p := range bracketed(text) {
		less := text[:p[0]] + text[p[0]+1:p[1]] + text[p[1]+1:]
		if back, code, _ := regex.Parse(less); code == api.OK && slices.Equal(back, re) {
			t.Fatalf("4.2: %q has brackets that it needs not: %q", text, less)
		}
	}
}

func TestPrintBrackets(t *testing.T) {
	for _, trees := range treesOf(6, leaf("a"), empty()) {
		for _, re := range trees {
			mustBracket(t, re)
		}
	}
	r := rand.New(rand.NewSource(44))
	for range 500 {
		mustBracket(t, randomTree(r, 1+r.Intn(api.MaxRegex), func() api.ReNode { return randomClass(r) }))
	}
}

// 4.2, 4.4: trees as deep as they may be.
func TestPrintDeep(t *testing.T) {
	right := []api.ReNode{empty()}
	for len(right)+2 <= api.MaxRegex {
		op := api.ReCat
		if len(right)%4 == 1 {
			op = api.ReAlt
		}
		right = two(op, []api.ReNode{leaf("a")}, right)
	}
	mustBracket(t, right)
	mustBracket(t, one(api.ReStar, right))
	stars := []api.ReNode{leaf("a")}
	for len(stars) < api.MaxRegex {
		stars = one(api.ReStar, stars)
	}
	mustBracket(t, stars)
	if text := printed(t, stars); text != "a"+strings.Repeat("*", 127) {
		t.Errorf("4.2: 127 stars: %q", text)
	}
}
