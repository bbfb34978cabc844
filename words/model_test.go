package words_test

import (
	"math/big"
	"math/rand"
	"regexp"
	"slices"
	"strings"
	"testing"

	"trellis/api"
	"trellis/words"
)

// What the tests of this package share: the chapter's words told plainly, as patterns, and words and texts of all kinds.

// answer: what Cut answers.
type answer struct {
	words []api.Word
	code  api.Errno
	place int
}

func cut(text string) answer {
	l, code, at := words.Cut(text)
	return answer{l, code, at}
}

func (a answer) alike(b answer) bool {
	return slices.Equal(a.words, b.words) && a.code == b.code && a.place == b.place
}

// The model reads a text of which each byte is a rune, so that the library's patterns can tell all bytes apart.
func wide(text string) string {
	var out []rune
	for i := range len(text) {
		out = append(out, rune(text[i]))
	}
	return string(out)
}

func narrow(text string) string {
	var out []byte
	for _, r := range text {
		out = append(out, byte(r))
	}
	return string(out)
}

var (
	plainSpace  = regexp.MustCompile(`^([ \t\r\n]|#[^\n]*)+`)
	plainName   = regexp.MustCompile(`^[A-Za-z_][A-Za-z_0-9]*`)
	plainNumber = regexp.MustCompile(`^[0-9]+`)
	plainBegun  = regexp.MustCompile(`^"([^"\\\n]|\\["\\ntr]|\\x[0-9a-fA-F][0-9a-fA-F])*`)
	plainPiece  = regexp.MustCompile(`\\x..|\\.`)
	plainRegex  = regexp.MustCompile(`^/([^/\\\n]|\\[^\n])*/`)
	plainSign   = regexp.MustCompile(`^[{}()|*+?:;,=@]`)
)

func plainString(written string) string {
	return narrow(plainPiece.ReplaceAllStringFunc(written, func(e string) string {
		if v, ok := new(big.Int).SetString(e[2:], 16); ok {
			return string(rune(v.Int64()))
		}
		return map[string]string{`\"`: `"`, `\\`: `\`, `\n`: "\n", `\t`: "\t", `\r`: "\r"}[e]
	}))
}

// plainFirst: the word with which the text begins, how many bytes it has, or the error and how far behind the text's beginning it is.
func plainFirst(text string) (api.Word, int, api.Errno) {
	if s := plainName.FindString(text); len(s) > 24 {
		return api.Word{}, 0, api.ErrName
	} else if s != "" {
		return api.Word{Kind: api.WordName, Text: s}, len(s), api.OK
	}
	if s := plainNumber.FindString(text); s != "" {
		v, _ := new(big.Int).SetString(s, 10)
		if v.Cmp(big.NewInt(65535)) > 0 {
			return api.Word{}, 0, api.ErrNumber
		}
		return api.Word{Kind: api.WordNumber, N: int(v.Int64())}, len(s), api.OK
	}
	if s := plainBegun.FindString(text); s != "" {
		switch rest := text[len(s):]; {
		case strings.HasPrefix(rest, `"`):
			return api.Word{Kind: api.WordString, Text: plainString(s[1:])}, len(narrow(s)) + 1, api.OK
		case strings.HasPrefix(rest, `\`):
			return api.Word{}, len(narrow(s)), api.ErrString
		}
		return api.Word{}, 0, api.ErrString
	}
	if s := plainRegex.FindString(text); s != "" {
		return api.Word{Kind: api.WordRegex, Text: narrow(s[1 : len(s)-1])}, len(narrow(s)), api.OK
	}
	if strings.HasPrefix(text, "/") {
		return api.Word{}, 0, api.ErrString
	}
	if s := plainSign.FindString(text); s != "" {
		return api.Word{Kind: api.WordSign, Text: s}, 1, api.OK
	}
	return api.Word{}, 0, api.ErrByte
}

func plainCut(text string) answer {
	if len(text) > 16384 {
		return answer{nil, api.ErrLong, 16384}
	}
	var out []api.Word
	at := 0
	for rest := wide(text); ; rest = wide(text[at:]) {
		at += len(narrow(plainSpace.FindString(rest)))
		if at == len(text) {
			return answer{words: out}
		}
		w, n, code := plainFirst(wide(text[at:]))
		if code != api.OK {
			return answer{nil, code, at + n}
		}
		w.At = at
		out = append(out, w)
		at += n
	}
}

// plainSpell: how a sound word is written; false: it is not sound.
func plainSpell(w api.Word) (string, bool) {
	text := wide(w.Text)
	switch w.Kind {
	case api.WordName:
		return w.Text, len(text) <= 24 && text != "" && plainName.FindString(text) == text
	case api.WordString:
		out := ""
		for i := range len(w.Text) {
			out += plainByte(w.Text[i])
		}
		return `"` + out + `"`, true
	case api.WordRegex:
		return "/" + w.Text + "/", plainRegex.FindString("/"+text+"/") == "/"+text+"/"
	case api.WordNumber:
		return big.NewInt(int64(w.N)).String(), w.N >= 0 && w.N < 65536
	case api.WordSign:
		return w.Text, text != "" && plainSign.FindString(text) == text
	}
	return "", false
}

func plainByte(b byte) string {
	switch {
	case b == '"' || b == '\\':
		return `\` + string(b)
	case b == '\n':
		return `\n`
	case b == '\t':
		return `\t`
	case b == '\r':
		return `\r`
	case b >= ' ' && b <= '~':
		return string(b)
	}
	return `\x` + big.NewInt(int64(b) + 256).Text(16)[1:]
}

// stringsOf: all texts of at most n of these bytes.
func stringsOf(bytes string, n int) []string {
	out := []string{""}
	for from := 0; n > 0; n-- {
		last := len(out)
		for _, s := range out[from:last] {
			for i := range len(bytes) {
				out = append(out, s+bytes[i:i+1])
			}
		}
		from = last
	}
	return out
}

func randomOf(r *rand.Rand, bytes string, n int) string {
	out := make([]byte, r.Intn(n+1))
	for i := range out {
		out[i] = bytes[r.Intn(len(bytes))]
	}
	return string(out)
}

func anyBytes(r *rand.Rand, n int) string {
	out := make([]byte, r.Intn(n+1))
	r.Read(out)
	return string(out)
}

// pick: one of them.
func pick(r *rand.Rand, l ...string) string { return l[r.Intn(len(l))] }

// randomPiece: something of which a definition's text is made, or something near it.
func randomPiece(r *rand.Rand) string {
	switch r.Intn(12) {
	case 0, 1:
		return pick(r, " ", "\n", "\t", "\r", "  ", " \n ")
	case 2:
		return "#" + randomOf(r, "a \"/\\#&\r\xff", 5) + pick(r, "\n", "\n", "\n", "")
	case 3, 4:
		return pick(r, "a", "_", "Z", "rule", "x1_") + randomOf(r, "azAZ_09", 3)
	case 5:
		return pick(r, "0", "7", "65535", "65536", "00065535", "99999999999999999999", "12")
	case 6, 7:
		return `"` + randomOf(r, "a/# &\x00\x80\xff", 3) + pick(r, "", `\n`, `\\`, `\"`, `\x4a`, `\xfF`, `\q`, `\x`, `\x4`, "\n") + pick(r, `"`, `"`, `"`, "")
	case 8, 9:
		return `/` + randomOf(r, "a[]# &\x80\"", 3) + pick(r, "", `\/`, `\\`, `\"`, "\\\x00", "\n", "\\\n", "\\") + pick(r, `/`, `/`, `/`, "")
	case 10:
		return randomOf(r, "{}()|*+?:;,=@", 3)
	}
	return pick(r, "&", "'", "\\", "-", ".", "<", "\x00", "\xff", "é", "~", "!", "[", "$", "\v", "a", ";", "1", " ", "=", "{}")
}

func randomText(r *rand.Rand, n int) string {
	out := ""
	for range r.Intn(n + 1) {
		out += randomPiece(r)
	}
	return out
}

// randomSound: a sound word, what its kind does not use left as it is.
func randomSound(r *rand.Rand) api.Word {
	w := api.Word{Kind: api.WordKind(1 + r.Intn(5))}
	switch w.Kind {
	case api.WordName:
		w.Text = pick(r, "a", "Z", "_", "m") + randomOf(r, "azAZ_09", 23)
	case api.WordString:
		w.Text = pick(r, anyBytes(r, 9), randomOf(r, "\"\\\n\t\rx4 a", 6))
	case api.WordRegex:
		for range r.Intn(6) {
			w.Text += pick(r, "a", `"`, "#", " ", "\xff", "\x00", `\/`, `\\`, "\\\xff", `\a`, "\r", "[")
		}
	case api.WordNumber:
		w.N = r.Intn(65536)
	case api.WordSign:
		w.Text = pick(r, strings.Split("{}()|*+?:;,=@", "")...)
	}
	return w
}

// oddWord: any word at all.
func oddWord(r *rand.Rand) api.Word {
	w := randomSound(r)
	switch r.Intn(5) {
	case 0:
		w.Kind = api.WordKind(r.Intn(8) - 1)
	case 1:
		w.N = r.Intn(1<<17) - 1<<15
	case 2:
		w.Text = randomOf(r, "a_9/\\\n(;-", 4)
	case 3:
		w.Text += pick(r, "/", "\\", "\n", "&", "é", strings.Repeat("a", 24), "", " ", ";")
	}
	w.At = r.Intn(99) - 9
	return w
}

// enough: of each kind at least so many were met.
func enough(t *testing.T, seen map[string]int, least int, kinds ...string) {
	t.Helper()
	for _, k := range kinds {
		if seen[k] < least {
			t.Errorf("too few of the kind %q: %v", k, seen)
		}
	}
}
