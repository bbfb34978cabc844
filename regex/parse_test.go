package regex_test

import (
	"math/rand"
	"slices"
	"strings"
	"testing"

	"trellis/api"
	"trellis/regex"
)

// taken: the tree of a text that must be taken.
func taken(t *testing.T, text string) []api.ReNode {
	t.Helper()
	re, code, at := regex.Parse(text)
	if code != api.OK || at != 0 {
		t.Fatalf("4.1: Parse(%q): %d at %d", text, code, at)
	}
	return re
}

func refused(t *testing.T, text string, code api.Errno, at int) {
	t.Helper()
	re, c, a := regex.Parse(text)
	if c != code || a != at {
		t.Errorf("4.1: Parse(%q): %d at %d, want %d at %d", text, c, a, code, at)
	}
	if re != nil {
		t.Errorf("P4: Parse(%q) is refused with a tree", text)
	}
}

// 4.1: how the parts of a text bind.
func TestParseTrees(t *testing.T) {
	a, b, c, d := leaf("a"), leaf("b"), leaf("c"), leaf("d")
	for text, want := range map[string][]api.ReNode{
		"a":           {a},
		"a|bc*":       {a, b, c, node(api.ReStar, 2, -1), node(api.ReCat, 1, 3), node(api.ReAlt, 0, 4)},
		"abcd":        {a, b, node(api.ReCat, 0, 1), c, node(api.ReCat, 2, 3), d, node(api.ReCat, 4, 5)},
		"a|b|c|d":     {a, b, node(api.ReAlt, 0, 1), c, node(api.ReAlt, 2, 3), d, node(api.ReAlt, 4, 5)},
		"a|(b|c)":     {a, b, c, node(api.ReAlt, 1, 2), node(api.ReAlt, 0, 3)},
		"ab|cd":       {a, b, node(api.ReCat, 0, 1), c, d, node(api.ReCat, 3, 4), node(api.ReAlt, 2, 5)},
		"a(b|c)d":     {a, b, c, node(api.ReAlt, 1, 2), node(api.ReCat, 0, 3), d, node(api.ReCat, 4, 5)},
		"ab+":         {a, b, node(api.RePlus, 1, -1), node(api.ReCat, 0, 2)},
		"(ab)?":       {a, b, node(api.ReCat, 0, 1), node(api.ReOpt, 2, -1)},
		"a?+*":        {a, node(api.ReOpt, 0, -1), node(api.RePlus, 1, -1), node(api.ReStar, 2, -1)},
		"(((a)))":     {a},
		"((a)(b))":    {a, b, node(api.ReCat, 0, 1)},
		"()":          {empty()},
		"(())":        {empty()},
		"()*|a()":     {empty(), node(api.ReStar, 0, -1), a, empty(), node(api.ReCat, 2, 3), node(api.ReAlt, 1, 4)},
		"[ab][c-d]":   {leaf("ab"), leaf("cd"), node(api.ReCat, 0, 1)},
		"-^":          {leaf("-"), leaf("^"), node(api.ReCat, 0, 1)},
		"\\x41\\x4b+": {leaf("A"), leaf("K"), node(api.RePlus, 1, -1), node(api.ReCat, 0, 2)},
	} {
		if re := taken(t, text); !slices.Equal(re, want) {
			t.Errorf("4.1: Parse(%q) = %v, want %v", text, re, want)
		}
	}
}

// 4.1: each byte by itself, behind a backslash, and in hexadecimal digits, outside a class and in one.
func TestParseBytes(t *testing.T) {
	const outside, inside, escapes = `\/|*+?()[].`, `\/[]-^`, `\/|*+?()[].-^`
	for b := range 256 {
		s := string([]byte{byte(b)})
		self := api.ReNode{Op: api.ReClass, Set: set(s), A: -1, B: -1}
		single := func(text string) {
			if re := taken(t, text); !slices.Equal(re, []api.ReNode{self}) {
				t.Errorf("4.1: Parse(%q) = %v, want the byte %d", text, re, b)
			}
		}
		for _, digits := range []string{"0123456789abcdef", "0123456789ABCDEF"} {
			x := "\\x" + string([]byte{digits[b>>4], digits[b&15]})
			single(x)
			single("[" + x + "]")
			single("[" + x + "-" + x + "]")
		}
		readable := b >= 32 && b <= 126
		switch {
		case readable && strings.IndexByte(outside, byte(b)) < 0:
			single(s)
		case b == '.':
			if re := taken(t, "."); re[0].Set != setOf(func(b int) bool { return b != 10 }) {
				t.Errorf("4.1: the dot is %v", re[0].Set)
			}
		case b != '(' && b != '[' && b != '\\':
			refused(t, s, api.ErrRegex, 0)
			if !strings.Contains("|*+?", s) {
				refused(t, "a"+s, api.ErrRegex, 1)
			}
		}
		switch {
		case readable && strings.IndexByte(inside, byte(b)) < 0:
			single("[" + s + "]")
			single("[" + s + "-" + s + "]")
		case b != '\\' && b != '^':
			refused(t, "["+s, api.ErrRegex, 1)
			refused(t, "[a-"+s, api.ErrRegex, 3)
			if b != '-' && b != ']' {
				refused(t, "[a"+s, api.ErrRegex, 2)
			}
		}
		switch {
		case strings.IndexByte(escapes, byte(b)) >= 0:
			single("\\" + s)
			single("[\\" + s + "]")
			single("[\\" + s + "-\\" + s + "]")
		case strings.IndexByte("ntrxdws", byte(b)) < 0:
			refused(t, "\\"+s, api.ErrRegex, 1)
			refused(t, "[\\"+s, api.ErrRegex, 2)
		}
	}
	for text, s := range map[string]string{`\n`: "\n", `\t`: "\t", `\r`: "\r"} {
		for _, text := range []string{text, "[" + text + "]", "[" + text + "-" + text + "]"} {
			if re := taken(t, text); len(re) != 1 || re[0] != leaf(s) {
				t.Errorf("4.1: Parse(%q) = %v", text, re)
			}
		}
	}
}

// 4.1: sets, ranges and hats.
func TestParseClasses(t *testing.T) {
	const word = "0123456789ABCDEFGHIJKLMNOPQRSTUVWXYZ_abcdefghijklmnopqrstuvwxyz"
	not := func(s string) api.Class {
		return setOf(func(b int) bool { return strings.IndexByte(s, byte(b)) < 0 })
	}
	for text, want := range map[string]api.Class{
		`\d`:               set("0123456789"),
		`\w`:               set(word),
		`\s`:               set("\t\n\r "),
		`[\d]`:             set("0123456789"),
		`[\w]`:             set(word),
		`[\s]`:             set("\t\n\r "),
		`[^\d]`:            not("0123456789"),
		`[^\w]`:            not(word),
		`[^\s]`:            not("\t\n\r "),
		`[\d\s_]`:          set("0123456789\t\n\r _"),
		`[a-cx]`:           set("abcx"),
		`[xa-c]`:           set("abcx"),
		`[a-cb-e]`:         set("abcde"),
		`[aaa]`:            set("a"),
		`[^aaa]`:           not("a"),
		`[^a-c\n]`:         not("abc\n"),
		`[.]`:              set("."),
		`[|*+?().]`:        set("|*+?()."),
		`[*-,]`:            set("*+,"),
		`[ -~]`:            setOf(func(b int) bool { return b >= 32 && b <= 126 }),
		`[\x00-\xff]`:      setOf(func(int) bool { return true }),
		`[\x3f-\x40]`:      set("?@"),
		`[^\x01-\xff]`:     set("\x00"),
		`[\t-\r]`:          set("\t\n\v\f\r"),
		`[\--\]]`:          setOf(func(b int) bool { return b >= '-' && b <= ']' }),
		`[\x41-Ca-\x63\^]`: set("ABCabc^"),
	} {
		if re := taken(t, text); len(re) != 1 || re[0] != (api.ReNode{Op: api.ReClass, Set: want, A: -1, B: -1}) {
			t.Errorf("4.1: Parse(%q) = %v, want %v", text, re, want)
		}
	}
}

// 4.1: the first error that is come to.
func TestParseErrors(t *testing.T) {
	for _, c := range []struct {
		text string
		code api.Errno
		at   int
	}{
		{"", api.ErrRegex, 0},
		{"(", api.ErrRegex, 1},
		{"(a", api.ErrRegex, 2},
		{"((a)", api.ErrRegex, 4},
		{"(a|", api.ErrRegex, 3},
		{"a)", api.ErrRegex, 1},
		{"(a))", api.ErrRegex, 3},
		{"())", api.ErrRegex, 2},
		{"(|", api.ErrRegex, 1},
		{"a|*", api.ErrRegex, 2},
		{"ab|c|", api.ErrRegex, 5},
		{"a/b", api.ErrRegex, 1},
		{"a\x7f", api.ErrRegex, 1},
		{"a\x1f", api.ErrRegex, 1},
		{"a\x00", api.ErrRegex, 1},
		{"(\x00", api.ErrRegex, 1},
		{"[\x00", api.ErrRegex, 1},
		{"\\\x00", api.ErrRegex, 1},
		{"[a\x00", api.ErrRegex, 2},
		{"a\xff", api.ErrRegex, 1},
		{"[]", api.ErrRegex, 1},
		{"[^]", api.ErrRegex, 2},
		{"[^^]", api.ErrRegex, 2},
		{"[a^]", api.ErrRegex, 2},
		{"[", api.ErrRegex, 1},
		{"[^", api.ErrRegex, 2},
		{"[a-b-c]", api.ErrRegex, 4},
		{"[-a]", api.ErrRegex, 1},
		{"[a-]", api.ErrRegex, 3},
		{"[a-", api.ErrRegex, 3},
		{`[\d-z]`, api.ErrRegex, 3},
		{`[a-\d]`, api.ErrRegex, 4},
		{`[a-\w]`, api.ErrRegex, 4},
		{`[a-\s]`, api.ErrRegex, 4},
		{`\`, api.ErrRegex, 1},
		{`\x`, api.ErrRegex, 2},
		{`\x4`, api.ErrRegex, 3},
		{`\xg0`, api.ErrRegex, 2},
		{`\x0g`, api.ErrRegex, 3},
		{`\x0G`, api.ErrRegex, 3},
		{"\\x0`", api.ErrRegex, 3},
		{`\x0@`, api.ErrRegex, 3},
		{`\x0:`, api.ErrRegex, 3},
		{`\x/0`, api.ErrRegex, 2},
		{`\X41`, api.ErrRegex, 1},
		{`\N`, api.ErrRegex, 1},
		{`\D`, api.ErrRegex, 1},
		{"[b-a]", api.ErrClass, 1},
		{"[b-a", api.ErrClass, 1},
		{"[b-a](", api.ErrClass, 1},
		{"[b-a\x00", api.ErrClass, 1},
		{"[xyz^-a]", api.ErrRegex, 4},
		{`[xyz\^-A]`, api.ErrClass, 4},
		{`x[\x41-\x40]`, api.ErrClass, 2},
		{`[b-\x6`, api.ErrRegex, 6},
		{`[b-\x61`, api.ErrClass, 1},
		{`[b-\x6g`, api.ErrRegex, 6},
		{`[\n-\t]`, api.ErrClass, 1},
		{`[^ab-a]`, api.ErrClass, 3},
		{`[^\x00-\xff]`, api.ErrClass, 0},
		{`ab[^\x00-\xff]`, api.ErrClass, 2},
		{`[^\x00-\xff]/`, api.ErrClass, 0},
		{`[^\x00-\xff`, api.ErrRegex, 11},
		{`[^\x00-\xffb-a]`, api.ErrClass, 11},
		{`[^\x00-ab-\xff]`, api.ErrClass, 0},
		{"/[b-a]", api.ErrRegex, 0},
	} {
		refused(t, c.text, c.code, c.at)
	}
}

// 4.1: how deep brackets stand, how great a tree is.
func TestParseLimits(t *testing.T) {
	open, shut := strings.Repeat("(", api.MaxRegex), strings.Repeat(")", api.MaxRegex)
	if re := taken(t, open+"a"+shut); !slices.Equal(re, []api.ReNode{leaf("a")}) {
		t.Errorf("4.1: %d brackets around a: %v", api.MaxRegex, re)
	}
	taken(t, open[1:]+"()"+shut[1:])
	taken(t, open[1:]+"()"+"()"+shut[1:])
	refused(t, open, api.ErrRegex, 128)
	refused(t, open+"(", api.ErrLarge, 128)
	refused(t, open+"()"+shut, api.ErrLarge, 128)
	refused(t, open+"a(", api.ErrLarge, 129)
	refused(t, open+`[(]\((`, api.ErrLarge, 133)
	refused(t, open+"a)(a|(", api.ErrLarge, 133)
	refused(t, "[b-a]"+open+"(", api.ErrClass, 1)
	refused(t, strings.Repeat("(a)", 65), api.ErrLarge, 0)
	refused(t, strings.Repeat("a", 65), api.ErrLarge, 0)
	refused(t, strings.Repeat("a", 65)+"(", api.ErrRegex, 66)
	refused(t, strings.Repeat("a", 65)+"[b-a]", api.ErrClass, 66)
	refused(t, strings.Repeat("a", 65)+open+"(", api.ErrLarge, 65+128)
	refused(t, strings.Repeat("a", 1<<20), api.ErrLarge, 0)
	refused(t, "a"+strings.Repeat("*", 1<<20), api.ErrLarge, 0)
	refused(t, strings.Repeat("()|", 1<<20)+"/", api.ErrRegex, 3<<20)
	for text, n := range map[string]int{
		strings.Repeat("a", 64):                          127,
		strings.Repeat("a", 64) + "*":                    128,
		"a" + strings.Repeat("*", 127):                   128,
		"a" + strings.Repeat("|()", 63) + "?":            128,
		strings.Repeat("(a)", 64):                        127,
		"[" + strings.Repeat("a-z", 1000) + "]":          1,
		"((a" + strings.Repeat("+", 63) + ")?b" + ")*()": 70,
	} {
		re := taken(t, text)
		if len(re) != n || !regex.Shaped(re) {
			t.Errorf("4.1, 4.4: Parse(%q) has %d nodes, want %d", text, len(re), n)
		}
	}
	refused(t, "a"+strings.Repeat("*", 128), api.ErrLarge, 0)
	refused(t, "a"+strings.Repeat("|()", 63)+"??", api.ErrLarge, 0)
}

// reader: what stands behind the bytes so far, told by the grammar as a machine with a counter: a second way to say what 4.1 says of errors.
type reader struct {
	state rune // what may come: see step
	back  rune // the state behind an escape
	open  int
	class classReader
}

type classReader struct {
	at, item int // where it opens, where its last item begins
	hat      bool
	set      [256]bool
	first    int // of the last item, if that is one byte
	number   int // an escape's
}

// step goes on with a byte at a place: false: no regex goes on with it. The states: ( an atom must come, a bracket may close; | an atom must come; a behind an atom; [ a class has begun, ^ with a hat; i behind an item that may be a range's first; - behind a range's minus; s behind an item that may not; \ escape; x, X hexadecimal digits.
func (r *reader) step(b byte, at int) (code api.Errno, where int, ok bool) {
	switch r.state {
	case '(', '|', 'a':
		return r.outside(b, at)
	case '[', '^', 'i', 's', '-':
		return r.inside(b, at)
	case '\\':
		return r.escape(b)
	}
	digit := strings.IndexByte("0123456789abcdef", b)
	if b >= 'A' && b <= 'F' {
		digit = int(b) - 'A' + 10
	}
	if digit < 0 {
		return 0, 0, false
	}
	r.class.number = r.class.number*16 + digit
	if r.state == 'x' {
		r.state = 'X'
		return 0, 0, true
	}
	return r.got(r.class.number)
}

func (r *reader) outside(b byte, at int) (api.Errno, int, bool) {
	behind := r.state == 'a'
	switch {
	case b == '(':
		if r.open == api.MaxRegex {
			return api.ErrLarge, at, true
		}
		r.open++
		r.state = '('
	case b == ')':
		if r.open == 0 || r.state == '|' {
			return 0, 0, false
		}
		r.open--
		r.state = 'a'
	case b == '|' && behind:
		r.state = '|'
	case (b == '*' || b == '+' || b == '?') && behind:
		r.state = 'a'
	case b == '[':
		r.class = classReader{at: at}
		r.state = '['
	case b == '\\':
		r.back, r.state = 'a', '\\'
	case b == '.', b >= 32 && b <= 126 && strings.IndexByte(`/|*+?)]`, b) < 0:
		r.state = 'a'
	default:
		return 0, 0, false
	}
	return 0, 0, true
}

func (r *reader) inside(b byte, at int) (api.Errno, int, bool) {
	switch {
	case b == '^' && r.state == '[':
		r.class.hat, r.state = true, '^'
		return 0, 0, true
	case b == '-' && r.state == 'i':
		r.state = '-'
		return 0, 0, true
	case b == ']' && (r.state == 'i' || r.state == 's'):
		r.state = 'a'
		if r.class.hat && r.class.set == setAll() {
			return api.ErrClass, r.class.at, true
		}
		return 0, 0, true
	}
	if r.state != '-' {
		r.class.item = at
	}
	r.back = r.state
	if b == '\\' {
		r.state = '\\'
		return 0, 0, true
	}
	if b < 32 || b > 126 || strings.IndexByte(`/[]-^`, b) >= 0 {
		return 0, 0, false
	}
	return r.got(int(b))
}

func setAll() (all [256]bool) {
	for i := range all {
		all[i] = true
	}
	return all
}

func (r *reader) escape(b byte) (api.Errno, int, bool) {
	switch b {
	case 'x':
		r.class.number, r.state = 0, 'x'
		return 0, 0, true
	case 'd', 'w', 's':
		if r.back == '-' {
			return 0, 0, false
		}
		if r.back == 'a' {
			r.state = 'a'
			return 0, 0, true
		}
		for c := range 256 {
			letter := c >= 'a' && c <= 'z' || c >= 'A' && c <= 'Z' || c == '_'
			digit := c >= '0' && c <= '9'
			blank := c == 9 || c == 10 || c == 13 || c == 32
			if b == 'd' && digit || b == 'w' && (letter || digit) || b == 's' && blank {
				r.class.set[c] = true
			}
		}
		r.state = 's'
		return 0, 0, true
	case 'n':
		return r.got(10)
	case 't':
		return r.got(9)
	case 'r':
		return r.got(13)
	}
	if strings.IndexByte(`\/|*+?()[].-^`, b) < 0 {
		return 0, 0, false
	}
	return r.got(int(b))
}

// got: a byte has been read whole.
func (r *reader) got(n int) (api.Errno, int, bool) {
	switch r.back {
	case 'a':
		r.state = 'a'
	case '-':
		if n < r.class.first {
			return api.ErrClass, r.class.item, true
		}
		for c := r.class.first; c <= n; c++ {
			r.class.set[c] = true
		}
		r.state = 's'
	default:
		r.class.first, r.class.set[n] = n, true
		r.state = 'i'
	}
	return 0, 0, true
}

// firstError: what 4.1 says of a text, but for the size of its tree. (A state goes back to an item's by r.back: outside a class that is 'a'.)
func firstError(text string) (api.Errno, int) {
	r := reader{state: '|'}
	for at := range len(text) {
		code, where, ok := r.step(text[at], at)
		if !ok {
			return api.ErrRegex, at
		}
		if code != 0 {
			return code, where
		}
	}
	if r.state != 'a' || r.open > 0 {
		return api.ErrRegex, len(text)
	}
	return api.OK, 0
}

func sameError(t *testing.T, text string) {
	t.Helper()
	code, at := firstError(text)
	re, c, a := regex.Parse(text)
	if c == api.ErrLarge && a == 0 && code == api.OK {
		return
	}
	if c != code || a != at || (re == nil) != (code != api.OK) {
		t.Fatalf("4.1: Parse(%q): %d at %d, want %d at %d", text, c, a, code, at)
	}
	if c == api.OK && !regex.Shaped(re) {
		t.Fatalf("4.4: the tree of %q is not well shaped", text)
	}
}

// 4.1, 4.4: all short texts over the bytes that mean something, and long ones that are nearly regexes.
func TestParseFirstError(t *testing.T) {
	var all func(text string, left int, over string)
	all = func(text string, left int, over string) {
		sameError(t, text)
		if left == 0 {
			return
		}
		for i := range len(over) {
			all(text+over[i:i+1], left-1, over)
		}
	}
	all("", 4, "ab-^[]()|*+?.\\/x4dn \x00\x7f")
	all("", 6, "a()|*/")
	all("[", 5, "ac-^]\\d/4")
	all("[^", 5, "ac-^]\\d/4")
	all("[b-\\x", 3, "045678afg]")
	r := rand.New(rand.NewSource(4))
	const pieces = "a|b|(|)|(|)|[a-c]|[^|[|]|-|*|+|?|.|\\n|\\x41|\\x|\\d|\\w|\\|/|[b-a]|[^\\x00-\\xff]|\\x00-\\xff"
	words := append(strings.Split(pieces, "|"), "|", "|")
	for range 100000 {
		var text strings.Builder
		for range r.Intn(12) {
			text.WriteString(words[r.Intn(len(words))])
		}
		sameError(t, text.String())
	}
}

// wordy writes a tree with more brackets and other classes than it must.
func wordy(r *rand.Rand, re []api.ReNode, i int) string {
	n := re[i]
	var text string
	switch n.Op {
	case api.ReClass:
		return wordyClass(r, n.Set)
	case api.ReEmpty:
		text = "()"
	case api.ReCat:
		text = wordy(r, re, n.A) + wordy(r, re, n.B)
	case api.ReAlt:
		text = wordy(r, re, n.A) + "|" + wordy(r, re, n.B)
	default:
		text = wordy(r, re, n.A) + string([]byte{"*+?"[n.Op-api.ReStar]})
	}
	for range 1 + r.Intn(2) {
		text = "(" + text + ")"
	}
	return text
}

func wordyClass(r *rand.Rand, c api.Class) string {
	hex := func(b int) string {
		digits := []string{"0123456789abcdef", "0123456789ABCDEF"}[r.Intn(2)]
		return "\\x" + string([]byte{digits[b>>4], digits[b&15]})
	}
	hat := r.Intn(2) == 0
	var items []string
	for b := 0; b < 256; b++ {
		if c.Has(byte(b)) == hat {
			continue
		}
		first := b
		for b < 255 && c.Has(byte(b+1)) != hat && r.Intn(8) > 0 {
			b++
		}
		item := hex(first)
		if b > first || r.Intn(2) == 0 {
			item += "-" + hex(b)
		}
		items = append(items, item)
	}
	r.Shuffle(len(items), func(i, j int) { items[i], items[j] = items[j], items[i] })
	switch {
	case len(items) == 0: // all bytes, with a hat
		return "[\\x00-\\xff]"
	case hat:
		return "[^" + strings.Join(items, "") + "]"
	}
	return "[" + strings.Join(items, "") + "]"
}

// 4.1: a text means its tree, however it is written.
func TestParseWordy(t *testing.T) {
	r := rand.New(rand.NewSource(41))
	for range 3000 {
		re := randomTree(r, 1+r.Intn(30), func() api.ReNode { return randomClass(r) })
		text := wordy(r, re, len(re)-1)
		if got := taken(t, text); !slices.Equal(got, re) {
			t.Fatalf("4.1: Parse(%q) = %v, want %v", text, got, re)
		}
	}
}
