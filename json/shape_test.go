package json_test

import (
	"math"
	"math/rand"
	"slices"
	"strings"
	"testing"

	"trellis/api"
	"trellis/json"
)

// sameShape: 25.3 of a list, 25.2 and P4 with it.
func sameShape(t *testing.T, v []api.JNode) bool {
	t.Helper()
	want := plainShaped(v)
	if got := json.Shaped(v); got != want {
		t.Fatalf("25.3: Shaped(%+v) = %v", v, got)
	}
	text, code := json.Print(v)
	switch {
	case !want && (text != "" || code != api.ErrShape):
		t.Fatalf("25.2: Print(%+v) = %q, %d", v, text, code)
	case want && (text != plainPrint(v) || code != api.OK):
		t.Fatalf("25.2: Print(%+v) = %q, %d, want %q", v, text, code, plainPrint(v))
	}
	return want
}

// 25.3: one list for each of the chapter's words, and its like that is well shaped.
func TestShaped(t *testing.T) {
	null, list, object := node(api.JNull, ""), many(api.JList, 0), many(api.JObject, 0)
	one, two := many(api.JList, 1), many(api.JObject, 2)
	kids := func(n api.JNode, k int) api.JNode { n.Kids = k; return n }
	for _, c := range []struct {
		v    []api.JNode
		want bool
	}{
		{nil, false}, {[]api.JNode{}, false}, {[]api.JNode{{}}, false}, {[]api.JNode{null}, true}, {[]api.JNode{null, null}, false}, {[]api.JNode{list}, true}, {[]api.JNode{list, null}, false}, {[]api.JNode{one}, false}, {[]api.JNode{one, null}, true}, {[]api.JNode{one, null, null}, false}, {[]api.JNode{one, one, null}, true}, {[]api.JNode{one, one}, false}, {[]api.JNode{one, list, null}, false},
		{[]api.JNode{kids(list, -1)}, false}, {[]api.JNode{kids(object, -1)}, false}, {[]api.JNode{kids(list, math.MinInt)}, false}, {[]api.JNode{kids(list, math.MaxInt)}, false}, {[]api.JNode{kids(object, math.MaxInt), keyed("a", null), keyed("b", null)}, false}, {[]api.JNode{one, kids(list, -1)}, false}, {[]api.JNode{many(api.JList, 2), kids(list, -1), null, null}, false}, {[]api.JNode{kids(list, math.MaxInt), kids(list, math.MaxInt), null}, false},
		{[]api.JNode{kids(null, 1), null}, false}, {[]api.JNode{kids(node(api.JTrue, ""), 1), null}, false}, {[]api.JNode{kids(node(api.JFalse, ""), -1)}, false}, {[]api.JNode{kids(node(api.JNumber, "1"), 1), null}, false}, {[]api.JNode{kids(node(api.JString, ""), 1), null}, false}, {[]api.JNode{kids(node(api.JString, ""), -1)}, false}, {[]api.JNode{kids(node(api.JNumber, "1"), -1)}, false},
		{[]api.JNode{node(0, "")}, false}, {[]api.JNode{node(8, "")}, false}, {[]api.JNode{node(-1, "")}, false}, {[]api.JNode{node(math.MaxInt, "")}, false}, {[]api.JNode{node(math.MinInt, "")}, false}, {[]api.JNode{one, node(8, "")}, false},
		{[]api.JNode{node(api.JNull, "null")}, false}, {[]api.JNode{node(api.JTrue, "x")}, false}, {[]api.JNode{node(api.JFalse, " ")}, false}, {[]api.JNode{node(api.JList, "x")}, false}, {[]api.JNode{node(api.JObject, "x")}, false},
		{[]api.JNode{keyed("k", null)}, false}, {[]api.JNode{keyed("k", object)}, false}, {[]api.JNode{one, keyed("k", null)}, false}, {[]api.JNode{many(api.JObject, 1), keyed("k", null)}, true}, {[]api.JNode{many(api.JObject, 1), null}, true}, {[]api.JNode{many(api.JObject, 1), one, keyed("k", null)}, false}, {[]api.JNode{one, many(api.JObject, 1), keyed("k", null)}, true}, {[]api.JNode{many(api.JObject, 1), keyed("k", one), null}, true}, {[]api.JNode{many(api.JList, 2), object, keyed("k", null)}, false},
		{[]api.JNode{two, keyed("k", null), keyed("k", null)}, false}, {[]api.JNode{two, keyed("k", null), keyed("K", null)}, true}, {[]api.JNode{two, null, null}, false}, {[]api.JNode{two, null, keyed("k", null)}, true}, {[]api.JNode{many(api.JObject, 3), keyed("k", null), keyed("l", null), keyed("k", null)}, false}, {[]api.JNode{two, keyed("k", many(api.JObject, 1)), keyed("k", null), keyed("l", null)}, true}, {[]api.JNode{two, keyed("k", many(api.JObject, 1)), keyed("l", null), keyed("k", null)}, false}, {[]api.JNode{many(api.JList, 2), many(api.JObject, 1), keyed("k", null), many(api.JObject, 1), keyed("k", null)}, true},
		{[]api.JNode{many(api.JObject, 1), keyed("\xff", null)}, false}, {[]api.JNode{many(api.JObject, 1), keyed("\xed\xa0\x80", null)}, false}, {[]api.JNode{many(api.JObject, 1), keyed("\x00\"\\é😀", null)}, true}, {[]api.JNode{two, keyed("k", null), keyed("é"[:1], null)}, false},
		{[]api.JNode{node(api.JString, "\xff")}, false}, {[]api.JNode{node(api.JString, "a\xc0\x80")}, false}, {[]api.JNode{node(api.JString, "\xed\xbf\xbf")}, false}, {[]api.JNode{node(api.JString, "\xf4\x90\x80\x80")}, false}, {[]api.JNode{node(api.JString, "😀"[:3])}, false}, {[]api.JNode{node(api.JString, "\x00\x1f\x7f\ufffd\uffff😀")}, true},
	} {
		if got := sameShape(t, c.v); got != c.want {
			t.Errorf("25.3: Shaped(%+v) = %v", c.v, got)
		}
	}
}

// 25.3: what numbers are, by all short texts.
func TestShapedNumbers(t *testing.T) {
	texts := []string{""}
	fine := 0
	for from := 0; len(texts) < 300000; {
		last := len(texts)
		for _, s := range texts[from:last] {
			for _, b := range []byte("-+.eE019a ") {
				texts = append(texts, s+string(b))
			}
		}
		from = last
	}
	for _, s := range texts {
		if sameShape(t, []api.JNode{node(api.JNumber, s)}) {
			fine++
		}
	}
	if fine < 1000 {
		t.Errorf("only %d numbers", fine)
	}
	for s, want := range map[string]bool{"0": true, "-0": true, "01": false, "-": false, "1.": false, ".1": false, "1e": false, "1e+": false, "1E-09": true, "0.00": true, "1 ": false, " 1": false, "1\n": false, "+1": false, "1_0": false, "0x1": false, "1.5e3.": false, "٣": false, strings.Repeat("1", 1<<20): true, strings.Repeat("1", 1<<20) + ".": false} {
		if sameShape(t, []api.JNode{node(api.JNumber, s)}) != want {
			t.Errorf("25.3: number %.20q", s)
		}
	}
}

// 25.3: how deep values may be, lists and objects and what is in them.
func TestShapedDeep(t *testing.T) {
	r := rand.New(rand.NewSource(253))
	for _, n := range []int{1, 2, 63, 64, 65, 66, 100} {
		for range 20 {
			var v []api.JNode
			key := ""
			for range n {
				kind := pick(r, api.JList, api.JObject)
				v = append(v, keyed(key, many(kind, 1)))
				key = map[api.JKind]string{api.JObject: "k"}[kind]
			}
			for _, last := range []api.JNode{node(api.JNull, ""), node(api.JString, "x"), many(api.JList, 0), many(api.JObject, 0)} {
				want := n < 64 || n == 64 && last.Kind < api.JList
				if got := sameShape(t, append(slices.Clone(v), keyed(key, last))); got != want {
					t.Errorf("25.3: %v in %d others: %v", last, n, got)
				}
			}
		}
	}
}

// 25.2, 25.3: all short lists of all kinds of nodes.
func TestShapedAllShort(t *testing.T) {
	var most, some []api.JNode
	for _, n := range []api.JNode{node(0, ""), node(api.JNull, ""), node(api.JTrue, ""), node(api.JFalse, "t"), node(api.JNumber, "1"), node(api.JNumber, "01"), node(api.JString, ""), node(api.JString, "\xff"), many(api.JNull, 1), many(api.JList, -1), many(api.JList, 0), many(api.JList, 1), many(api.JList, 2), many(api.JObject, 0), many(api.JObject, 1), many(api.JObject, 2), many(api.JObject, math.MaxInt)} {
		for _, key := range []string{"", "a", "b", "\xff"} {
			most = append(most, keyed(key, n))
			if n.Kind != 0 && n.Text == "" && key != "\xff" && n.Kids >= 0 && n.Kids < 9 && n.Kind != api.JNull {
				some = append(some, keyed(key, n))
			}
		}
	}
	var all func(v, pool []api.JNode, n int)
	fine := 0
	all = func(v, pool []api.JNode, n int) {
		if sameShape(t, v) {
			fine++
		}
		if n == 0 {
			return
		}
		for _, x := range pool {
			all(append(v[:len(v):len(v)], x), pool, n-1)
		}
	}
	all(nil, most, 2)
	all(nil, some, 3)
	all([]api.JNode{many(api.JObject, 2)}, some, 3)
	if fine < 500 {
		t.Errorf("only %d lists are well shaped", fine)
	}
}

// spoiltValue: a value with something changed.
func spoiltValue(r *rand.Rand, v []api.JNode) []api.JNode {
	out := slices.Clone(v)
	i := r.Intn(len(out))
	switch n := &out[i]; r.Intn(6) {
	case 0:
		n.Kind = api.JKind(r.Intn(9))
	case 1:
		n.Kids += pick(r, -1, 1, 2)
	case 2:
		n.Text = pick(r, "", "1", "x", "\xff", "1.", "-")
	case 3:
		n.Key = pick(r, "", "a", "b", "\xff")
	case 4:
		out = slices.Delete(out, i, i+1)
	default:
		out = slices.Insert(out, i, out[r.Intn(len(out))])
	}
	return out
}

// 25.2, 25.3: random values, and ones near them.
func TestShapedRandom(t *testing.T) {
	r := rand.New(rand.NewSource(2530))
	fine := 0
	for i := range 30000 {
		v := anyValue(r, "", 4)
		if i%3 > 0 {
			v = spoiltValue(r, v)
		}
		got := sameShape(t, v)
		if i%3 == 0 && !got {
			t.Fatalf("25.3: %+v", v)
		}
		if i%3 > 0 && got {
			fine++
		}
	}
	if fine < 500 || fine > 15000 {
		t.Errorf("%d of the changed values are well shaped", fine)
	}
}

// 25.2: the chapter's example, each byte below 32, and what stays as it is.
func TestPrint(t *testing.T) {
	var low strings.Builder
	for b := range byte(32) {
		low.WriteByte(b)
	}
	for _, c := range []struct {
		v    []api.JNode
		want string
	}{
		{example(), `{"a":[1,-0.5e3,"é\n"],"b":{}}`},
		{[]api.JNode{node(api.JNull, "")}, "null"}, {[]api.JNode{node(api.JFalse, "")}, "false"}, {[]api.JNode{node(api.JTrue, "")}, "true"}, {[]api.JNode{node(api.JNumber, "-1.50E+007")}, "-1.50E+007"}, {[]api.JNode{node(api.JString, "")}, `""`}, {[]api.JNode{many(api.JList, 0)}, "[]"}, {[]api.JNode{many(api.JObject, 0)}, "{}"},
		{[]api.JNode{node(api.JString, low.String())}, `"\u0000\u0001\u0002\u0003\u0004\u0005\u0006\u0007\b\t\n\u000b\f\r\u000e\u000f\u0010\u0011\u0012\u0013\u0014\u0015\u0016\u0017\u0018\u0019\u001a\u001b\u001c\u001d\u001e\u001f"`},
		{[]api.JNode{node(api.JString, "\"\\/'<>&\x7f\u0080\u2028\u2029\ufeff\ufffd😀 ")}, "\"\\\"\\\\/'<>&\x7f\u0080\u2028\u2029\ufeff\ufffd😀 \""},
		{[]api.JNode{many(api.JObject, 2), keyed("\n\"\\/\x01é", node(api.JNull, "")), keyed("", many(api.JList, 0))}, `{"\n\"\\/\u0001é":null,"":[]}`},
		{[]api.JNode{many(api.JList, 3), many(api.JList, 1), many(api.JList, 0), many(api.JObject, 1), keyed("k", many(api.JList, 1)), node(api.JTrue, ""), node(api.JString, "x")}, `[[[]],{"k":[true]},"x"]`},
	} {
		sameShape(t, c.v)
		if got, code := json.Print(c.v); got != c.want || code != api.OK {
			t.Errorf("25.2: Print(%+v) = %s, %d, want %s", c.v, got, code, c.want)
		}
	}
}
