package json_test

import (
	"bytes"
	"cmp"
	stdlib "encoding/json"
	"fmt"
	"maps"
	"math/rand"
	"regexp"
	"slices"
	"strconv"
	"strings"
	"sync"
	"testing"
	"unicode/utf16"
	"unicode/utf8"

	"trellis/api"
	"trellis/json"
)

// What the tests of this package share: the chapter's words told plainly, and values and texts of all kinds.

// The chapter's grammar: by name the rows that it may become. What has no row is a byte, one of a class, or a part of a sequence that is told by the bytes of it that have been read.
var grammar = map[string][]string{
	"text":    {"blanks value blanks"},
	"blanks":  {"", "blank blanks"},
	"value":   {"n u l l", "f a l s e", "t r u e", "number", "string", "[ blanks ]", "[ blanks value blanks values ]", "{ blanks }", "{ blanks member members }"},
	"values":  {"", ", blanks value blanks values"},
	"members": {"", ", blanks member members"},
	"member":  {"string blanks : blanks value blanks"},
	"number":  {"minus whole point power"},
	"minus":   {"", "-"},
	"whole":   {"0", "first digits"},
	"digits":  {"", "digit digits"},
	"point":   {"", ". digit digits"},
	"power":   {"", "e sign digit digits", "E sign digit digits"},
	"sign":    {"", "+", "-"},
	"string":  {`" chars "`},
	"chars":   {"", "char chars"},
	"char":    {"plain", "bytes=", `\ letter`, `\ u unit=`},
}

var classes = map[string]string{
	"blank":  " \t\n\r",
	"digit":  "0123456789",
	"first":  "123456789",
	"letter": `"\/bfnrt`,
	"plain":  plainBytes(),
}

func plainBytes() string {
	var out []byte
	for b := byte(32); b < 128; b++ {
		if b != '"' && b != '\\' {
			out = append(out, b)
		}
	}
	return string(out)
}

// begun: the beginnings of what all code points are as UTF-8 (of more than one byte), and of what they are behind \u.
var begun = sync.OnceValue(func() map[string]struct{} {
	out := map[string]struct{}{}
	begin := func(kind, text string) {
		for i := range len(text) {
			out[kind+text[:i]] = struct{}{}
		}
	}
	for c := range rune(0x110000) {
		if !utf8.ValidRune(c) {
			continue
		}
		if c >= 128 {
			begin("bytes=", string(c))
		}
		if c < 0x10000 || c%16 == 0 {
			begin("unit=", written(c))
		}
	}
	return out
})

// written: the digits of a code point behind \u, with small letters.
func written(c rune) string {
	out := ""
	for _, n := range utf16.Encode([]rune{c}) {
		out += fmt.Sprintf(`\u%04x`, n)
	}
	return out[2:]
}

// whole: are these the bytes, or the digits, of a code point?
func whole(kind, part string) bool {
	if kind == "bytes" {
		return len(part) > 1 && utf8.ValidString(part) && utf8.RuneCountInString(part) == 1
	}
	var units []uint16
	for _, digits := range strings.Split(part, `\u`) {
		n, err := strconv.ParseUint(digits, 16, 16)
		if err != nil || len(digits) != 4 {
			return false
		}
		units = append(units, uint16(n))
	}
	c := utf16.Decode(units)
	return len(c) == 1 && (c[0] != utf8.RuneError || units[0] == utf8.RuneError)
}

// stack: what is still to come, the next one first.
type stack string

func (s stack) next() (string, stack) {
	first, rest, _ := strings.Cut(string(s), " ")
	return first, stack(rest)
}

func (s stack) behind(row string) stack {
	return stack(strings.Trim(row+" "+string(s), " "))
}

// expand: the stacks of which a byte, or nothing, is the next one.
func (s stack) expand() []stack {
	first, rest := s.next()
	rows, ok := grammar[first]
	if !ok {
		return []stack{s}
	}
	var out []stack
	for _, row := range rows {
		out = append(out, rest.behind(row).expand()...)
	}
	return out
}

// read: what is left of a stack behind a byte; false: the byte is not the next one.
func (s stack) read(b byte) (stack, bool) {
	first, rest := s.next()
	kind, part, sequence := strings.Cut(first, "=")
	switch class, ok := classes[first]; {
	case ok:
		return rest, strings.IndexByte(class, b) >= 0
	case !sequence:
		return rest, first == string([]byte{b})
	case b >= 'A' && b <= 'F':
		b += 'a' - 'A'
	}
	part += string([]byte{b})
	if whole(kind, part) {
		return rest, true
	}
	_, ok := begun()[kind+"="+part]
	return rest.behind(kind + "=" + part), ok
}

// sets: sets of stacks, each by its number; 0 is the one ahead of a text. Where they go on a byte is kept: texts are many, their beginnings few.
type sets struct {
	lists   [][]stack
	numbers map[string]int
	to      map[[2]int]int
}

func newSets() *sets {
	s := &sets{numbers: map[string]int{}, to: map[[2]int]int{}}
	s.number(stack("text").expand())
	return s
}

func (s *sets) number(l []stack) int {
	l = slices.Compact(slices.Sorted(slices.Values(l)))
	key := fmt.Sprintf("%q", l)
	n, ok := s.numbers[key]
	if !ok {
		n = len(s.lists)
		s.numbers[key] = n
		s.lists = append(s.lists, l)
	}
	return n
}

func (s *sets) step(n int, b byte) int {
	if to, ok := s.to[[2]int{n, int(b)}]; ok {
		return to
	}
	var l []stack
	for _, x := range s.lists[n] {
		if rest, ok := x.read(b); ok {
			l = append(l, rest.expand()...)
		}
	}
	to := s.number(l)
	s.to[[2]int{n, int(b)}] = to
	return to
}

func (s *sets) dead(n int) bool { return len(s.lists[n]) == 0 }

func (s *sets) ended(n int) bool { return slices.Contains(s.lists[n], "") }

var texts = newSets()

// answer: what Parse answers.
type answer struct {
	value []api.JNode
	code  api.Errno
	place int
}

func parse(text string) answer {
	v, code, at := json.Parse(text)
	return answer{v, code, at}
}

func (a answer) alike(b answer) bool {
	return slices.Equal(a.value, b.value) && a.code == b.code && a.place == b.place
}

// plainOpen: a list or object that is open; the keys that have been read in it, if it is one.
type plainOpen struct {
	object bool
	keys   []string
}

// plainAt: what lies ahead of a byte of a text with which some text goes on.
type plainAt struct {
	open  []plainOpen
	quote int  // where a string has begun, if one is open
	in    bool // is one?
	slash bool // is the byte behind a backslash?
	sign  byte // the last byte ahead that is no blank and in no string
}

// plainRead: goes on by a byte; the error and its place, if one is come to.
func (p *plainAt) plainRead(text string, at int) (api.Errno, int) {
	b := text[at]
	last := len(p.open) - 1
	switch {
	case p.in && p.slash:
		p.slash = false
	case p.in && b == '\\':
		p.slash = true
	case p.in && b == '"':
		p.in = false
		if last >= 0 && p.open[last].object && (p.sign == '{' || p.sign == ',') {
			key := said(text[p.quote : at+1])
			if slices.Contains(p.open[last].keys, key) {
				return api.ErrJson, p.quote
			}
			p.open[last].keys = append(p.open[last].keys, key)
		}
	case p.in:
	case b == '"':
		p.in, p.quote = true, at
	case b == '[' || b == '{':
		if len(p.open) == 64 {
			return api.ErrJdeep, at
		}
		p.open, p.sign = append(p.open, plainOpen{object: b == '{'}), b
	case b == ']' || b == '}':
		p.open, p.sign = p.open[:last], b
	case !strings.Contains(" \t\n\r", string(b)):
		p.sign = b
	}
	return api.OK, 0
}

// said: what a string says, by the library.
func said(quoted string) string {
	var s string
	if err := stdlib.Unmarshal([]byte(quoted), &s); err != nil {
		panic(err)
	}
	return s
}

// plainParse: by the words of 25.1, byte by byte.
func plainParse(text string) answer {
	n, ahead := 0, &plainAt{}
	for at := range len(text) {
		if n = texts.step(n, text[at]); texts.dead(n) {
			return answer{nil, api.ErrJson, at}
		}
		if code, place := ahead.plainRead(text, at); code != api.OK {
			return answer{nil, code, place}
		}
	}
	if !texts.ended(n) {
		return answer{nil, api.ErrJson, len(text)}
	}
	return answer{plainValue(text), api.OK, 0}
}

// plainValue: what a text says, by the library.
func plainValue(text string) []api.JNode {
	d := stdlib.NewDecoder(strings.NewReader(text))
	d.UseNumber()
	return plainOne(d, "")
}

func plainOne(d *stdlib.Decoder, key string) []api.JNode {
	token, err := d.Token()
	if err != nil {
		panic(err)
	}
	n := api.JNode{Kind: api.JNull, Key: key}
	switch x := token.(type) {
	case bool:
		n.Kind = map[bool]api.JKind{false: api.JFalse, true: api.JTrue}[x]
	case stdlib.Number:
		n.Kind, n.Text = api.JNumber, string(x)
	case string:
		n.Kind, n.Text = api.JString, x
	case stdlib.Delim:
		n.Kind = map[stdlib.Delim]api.JKind{'[': api.JList, '{': api.JObject}[x]
		return plainMany(d, n)
	}
	return []api.JNode{n}
}

func plainMany(d *stdlib.Decoder, n api.JNode) []api.JNode {
	out := []api.JNode{n}
	for d.More() {
		key := ""
		if n.Kind == api.JObject {
			token, _ := d.Token()
			key = token.(string)
		}
		out[0].Kids++
		out = append(out, plainOne(d, key)...)
	}
	if _, err := d.Token(); err != nil {
		panic(err)
	}
	return out
}

// plainKids: by node of a list the places of what stands in it; false: it is not just one value.
func plainKids(v []api.JNode) ([][]int, bool) {
	kids := make([][]int, len(v))
	var open []int
	for i := range v {
		for len(open) > 0 && len(kids[open[len(open)-1]]) >= v[open[len(open)-1]].Kids {
			open = open[:len(open)-1]
		}
		if len(open) == 0 && i > 0 {
			return nil, false
		}
		if i > 0 {
			kids[open[len(open)-1]] = append(kids[open[len(open)-1]], i)
		}
		open = append(open, i)
	}
	for i, n := range v {
		if len(kids[i]) != n.Kids {
			return nil, false
		}
	}
	return kids, len(v) > 0
}

var plainNumber = regexp.MustCompile(`^-?(0|[1-9][0-9]*)(\.[0-9]+)?([eE][+-]?[0-9]+)?\z`)

// plainShaped: the chapter's words about well shaped values, one after the other.
func plainShaped(v []api.JNode) bool {
	kids, ok := plainKids(v)
	if !ok {
		return false
	}
	in, keyed := make([]int, len(v)), make([]bool, len(v))
	for i, n := range v {
		seen := map[string]int{}
		for _, k := range kids[i] {
			in[k], keyed[k] = in[i]+1, n.Kind == api.JObject
			seen[v[k].Key]++
		}
		holds := n.Kind == api.JList || n.Kind == api.JObject
		switch {
		case n.Kind < api.JNull || n.Kind > api.JObject, n.Kids != 0 && !holds, holds && in[i] >= 64:
			return false
		case n.Text != "" && n.Kind != api.JNumber && n.Kind != api.JString, n.Key != "" && !keyed[i]:
			return false
		case n.Kind == api.JObject && len(seen) < n.Kids:
			return false
		case n.Kind == api.JNumber && !plainNumber.MatchString(n.Text), !utf8.ValidString(n.Text), !utf8.ValidString(n.Key):
			return false
		}
	}
	return true
}

// plainPrint: by the words of 25.2, of a well shaped value.
func plainPrint(v []api.JNode) string {
	kids, _ := plainKids(v)
	return plainAll(v, kids, 0)
}

func plainAll(v []api.JNode, kids [][]int, at int) string {
	n := v[at]
	var parts []string
	for _, k := range kids[at] {
		part := plainAll(v, kids, k)
		if n.Kind == api.JObject {
			part = plainQuoted(v[k].Key) + ":" + part
		}
		parts = append(parts, part)
	}
	switch n.Kind {
	case api.JNumber:
		return n.Text
	case api.JString:
		return plainQuoted(n.Text)
	case api.JList:
		return "[" + strings.Join(parts, ",") + "]"
	case api.JObject:
		return "{" + strings.Join(parts, ",") + "}"
	}
	return map[api.JKind]string{api.JNull: "null", api.JFalse: "false", api.JTrue: "true"}[n.Kind]
}

func plainQuoted(text string) string {
	letters := map[rune]string{'"': `\"`, '\\': `\\`, 8: `\b`, 12: `\f`, 10: `\n`, 13: `\r`, 9: `\t`}
	out := ""
	for _, c := range text {
		if s, ok := letters[c]; ok {
			out += s
		} else if c < 32 {
			out += fmt.Sprintf(`\u%04x`, c)
		} else {
			out += string(c)
		}
	}
	return `"` + out + `"`
}

// kindOf: a word for an answer.
func kindOf(a answer, text string) string {
	switch {
	case a.code == api.OK:
		return "fine"
	case a.code == api.ErrJdeep:
		return "deep"
	case a.place == len(text):
		return "early"
	case text[a.place] == '"' && !texts.dead(after(text[:a.place+1])):
		return "twice"
	}
	return "wrong"
}

func after(text string) int {
	n := 0
	for i := range len(text) {
		n = texts.step(n, text[i])
	}
	return n
}

func pick[T any](r *rand.Rand, l ...T) T { return l[r.Intn(len(l))] }

// anyText: a text that a string may say.
func anyText(r *rand.Rand, n int) string {
	var out []rune
	for range r.Intn(n + 1) {
		c := pick(r, 'a', 'b', '"', '\\', '/', rune(r.Intn(32)), 127, 128, 0x7ff, 0x800, 0xd7ff, 0xe000, 0xfffd, 0xffff, 0x10000, 0x10ffff, rune(r.Intn(0xd800)), rune(0x10000+r.Intn(0x100000)))
		out = append(out, c)
	}
	return string(out)
}

func anyNumber(r *rand.Rand) string {
	digits := func() string { return fmt.Sprint(r.Intn(pick(r, 2, 10, 1000, 1<<62))) }
	return pick(r, "", "-") + digits() + pick(r, "", "", "."+digits(), ".0") + pick(r, "", "", pick(r, "e", "E")+pick(r, "", "+", "-")+digits())
}

// anyKey: one that is not among these.
func anyKey(r *rand.Rand, not map[string]bool) string {
	key := pick(r, "a", "b", "", anyText(r, 3))
	for not[key] {
		key += anyText(r, 2)
	}
	not[key] = true
	return key
}

// anyValue: a well shaped value of no great depth.
func anyValue(r *rand.Rand, key string, depth int) []api.JNode {
	n := api.JNode{Kind: api.JKind(1 + r.Intn(7)), Key: key}
	if depth == 0 {
		n.Kind = api.JKind(1 + r.Intn(5))
	}
	out := []api.JNode{n}
	switch n.Kind {
	case api.JNumber:
		out[0].Text = anyNumber(r)
	case api.JString:
		out[0].Text = anyText(r, 5)
	case api.JList, api.JObject:
		not := map[string]bool{}
		for range r.Intn(4) {
			key := ""
			if n.Kind == api.JObject {
				key = anyKey(r, not)
			}
			out[0].Kids++
			out = append(out, anyValue(r, key, depth-1)...)
		}
	}
	return out
}

// loose: a text of a value with blanks and escapes that need not be.
func loose(r *rand.Rand, v []api.JNode) string {
	text := plainPrint(v)
	out, in, slashed := "", false, 0
	for _, c := range text {
		s := string(c)
		switch {
		case slashed > 0:
			slashed--
			if c == 'u' {
				slashed = 4
			}
		case in && c == '\\':
			slashed = 1
		case c == '"':
			in = !in
		case in && (r.Intn(3) == 0 || c == '/'):
			s = pick(r, `\u`+written(c), strings.ReplaceAll(strings.ToUpper(`\u`+written(c)), "U", "u"))
		}
		if !in && strings.Contains("[]{},:\"", s) {
			s += pick(r, "", "", " ", "\n", "\t\r", "  ")
		}
		out += s
	}
	return pick(r, "", " ", "\r\n\t ") + out + pick(r, "", " ", "\n")
}

// spoilt: a text with some bytes changed.
func spoilt(r *rand.Rand, text string) string {
	out := []byte(text)
	for range 1 + r.Intn(2) {
		at := r.Intn(len(out) + 1)
		b := pick(r, []byte(`{}[]",:\u0e-.+ 1a`)...)
		if r.Intn(4) == 0 {
			b = byte(r.Intn(256))
		}
		switch r.Intn(4) {
		case 0:
			out = slices.Insert(out, at, b)
		case 1:
			out = out[:at]
		case 2:
			out = slices.Delete(out, at, min(at+1, len(out)))
		default:
			if at < len(out) {
				out[at] = b
			}
		}
	}
	return string(out)
}

// enough: has each of these kinds come up often enough to tell something?
func enough(t *testing.T, least int, seen map[string]int, kinds ...string) {
	t.Helper()
	for _, k := range kinds {
		if seen[k] < least {
			t.Errorf("only %d of %q: %v", seen[k], k, seen)
		}
	}
}

// The model itself: where it and the library can both be asked, they say the same.
func TestModel(t *testing.T) {
	for name, rows := range grammar {
		for _, row := range rows {
			for _, x := range strings.Fields(row) {
				_, ruled := grammar[x]
				_, classed := classes[x]
				if len(x) > 1 && !ruled && !classed && !strings.HasSuffix(x, "=") {
					t.Errorf("%s: %s is nothing", name, x)
				}
			}
		}
	}
	r := rand.New(rand.NewSource(2500))
	fine := 0
	for range 20000 {
		text := loose(r, anyValue(r, "", 3))
		if r.Intn(2) == 0 {
			text = spoilt(r, text)
		}
		got := texts.ended(after(text))
		want := stdlib.Valid([]byte(text)) && utf8.ValidString(text) && !halved(text)
		if got != want {
			t.Fatalf("the model says %v of %q", got, text)
		}
		if got {
			fine++
		}
	}
	if fine < 10000 || fine > 18000 {
		t.Errorf("%d of 20000 texts are fine", fine)
	}
	if got := slices.MaxFunc(slices.Collect(maps.Keys(begun())), func(a, b string) int { return cmp.Compare(len(a), len(b)) }); len(got) != len("unit=d83d\\ude0") {
		t.Errorf("the longest beginning is %q", got)
	}
}

// halved: has a valid text a half of a pair? The library puts the letter for what is none there.
func halved(text string) bool {
	var out bytes.Buffer
	count := func(s string) int { return strings.Count(s, "\ufffd") + strings.Count(strings.ToLower(s), `\ufffd`) }
	for _, n := range plainValue(text) {
		out.WriteString(n.Key + " " + n.Text + " ")
	}
	return count(strings.ReplaceAll(text, `\\`, "  ")) != count(out.String())
}
