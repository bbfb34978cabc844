package json_test

import (
	"math"
	"math/big"
	"math/rand"
	"slices"
	"testing"

	"trellis/api"
	"trellis/json"
)

// plainMember: by the words of 25.4.
func plainMember(v []api.JNode, at int, key string) int {
	if !plainShaped(v) || at < 0 || at >= len(v) || v[at].Kind != api.JObject {
		return -1
	}
	kids, _ := plainKids(v)
	for _, k := range kids[at] {
		if v[k].Key == key {
			return k
		}
	}
	return -1
}

// plainInt: by the words of 25.5.
func plainInt(v []api.JNode, at int) (int, bool) {
	if !plainShaped(v) || at < 0 || at >= len(v) || v[at].Kind != api.JNumber {
		return 0, false
	}
	n, whole := new(big.Int).SetString(v[at].Text, 10) // of base 10, it takes neither a dot nor an exponent
	if !whole || n.Cmp(big.NewInt(math.MinInt)) < 0 || n.Cmp(big.NewInt(math.MaxInt)) > 0 {
		return 0, false
	}
	return int(n.Int64()), true
}

// placesOf: the places of a list, and some that are none.
func placesOf(v []api.JNode) []int {
	out := []int{math.MinInt, -2, -1, 1 << 32, 1 << 62, math.MaxInt}
	for at := range len(v) + 2 {
		out = append(out, at)
	}
	return out
}

// sameAsks: 25.4 and 25.5 of a list, at all its places and some that are none; how many members and numbers there are.
func sameAsks(t *testing.T, v []api.JNode) (members, numbers int) {
	t.Helper()
	keys := []string{"", "a", "b", "k", "\xff"}
	for _, n := range v {
		keys = append(keys, n.Key)
	}
	for _, at := range placesOf(v) {
		for _, key := range keys {
			got, want := json.Member(v, at, key), plainMember(v, at, key)
			if got != want {
				t.Fatalf("25.4: Member(%+v, %d, %q) = %d, want %d", v, at, key, got, want)
			}
			members += min(got, 0) + 1
		}
		got, ok := json.Int(v, at)
		want, is := plainInt(v, at)
		if got != want || ok != is {
			t.Fatalf("25.5: Int(%+v, %d) = %d, %v, want %d, %v", v, at, got, ok, want, is)
		}
		if ok {
			numbers++
		}
	}
	return members, numbers
}

// 25.4: the chapter's examples, and members of members, which are none.
func TestMember(t *testing.T) {
	nested := []api.JNode{many(api.JObject, 3), keyed("x", many(api.JObject, 2)), keyed("a", node(api.JNull, "")), keyed("x", many(api.JList, 0)), keyed("a", many(api.JList, 2)), many(api.JObject, 1), keyed("y", node(api.JTrue, "")), many(api.JObject, 0), keyed("", node(api.JNumber, "7"))}
	for _, c := range []struct {
		v    []api.JNode
		at   int
		key  string
		want int
	}{
		{example(), 0, "a", 1}, {example(), 0, "b", 5}, {example(), 0, "c", -1}, {example(), 1, "a", -1}, {example(), 5, "b", -1}, {example(), 0, "", -1}, {example(), 2, "", -1}, {example(), 6, "a", -1}, {example(), -1, "a", -1},
		{nested, 0, "x", 1}, {nested, 0, "a", 4}, {nested, 0, "", 8}, {nested, 0, "y", -1}, {nested, 1, "a", 2}, {nested, 1, "x", 3}, {nested, 1, "", -1}, {nested, 5, "y", 6}, {nested, 7, "", -1}, {nested, 4, "", -1}, {nested, 4, "y", -1}, {nested, 3, "x", -1}, {nested, 8, "", -1}, {nested, 0, "X", -1}, {nested, 0, "\xff", -1},
		{nested[:8], 0, "x", -1}, {nested[1:], 0, "a", -1}, {slices.Concat(nested, nested), 0, "x", -1}, {nil, 0, "", -1},
	} {
		sameAsks(t, c.v)
		if got := json.Member(c.v, c.at, c.key); got != c.want {
			t.Errorf("25.4: Member(%+v, %d, %q) = %d, want %d", c.v, c.at, c.key, got, c.want)
		}
	}
}

// 25.5: the chapter's examples, and the ends of int.
func TestInt(t *testing.T) {
	for _, c := range []struct {
		text string
		want int
		ok   bool
	}{
		{"1", 1, true}, {"-0", 0, true}, {"9223372036854775807", math.MaxInt64, true}, {"9223372036854775808", 0, false}, {"1.0", 0, false}, {"1e2", 0, false},
		{"0", 0, true}, {"-1", -1, true}, {"-9223372036854775808", math.MinInt64, true}, {"-9223372036854775809", 0, false}, {"9223372036854775806", math.MaxInt64 - 1, true}, {"18446744073709551616", 0, false}, {"18446744073709551617", 0, false}, {"100000000000000000000000000000", 0, false}, {"-100000000000000000000000000000", 0, false},
		{"0.0", 0, false}, {"-0.0", 0, false}, {"0e0", 0, false}, {"1E0", 0, false}, {"1e-0", 0, false}, {"10", 10, true}, {"1234567890123456789", 1234567890123456789, true},
		{"", 0, false}, {"01", 0, false}, {"+1", 0, false}, {" 1", 0, false}, {"1_000", 0, false}, {"0x10", 0, false}, {"-", 0, false}, {"1a", 0, false},
	} {
		v := []api.JNode{node(api.JNumber, c.text)}
		sameAsks(t, v)
		sameAsks(t, []api.JNode{many(api.JList, 2), v[0], node(api.JNull, "")})
		if got, ok := json.Int(v, 0); got != c.want || ok != c.ok {
			t.Errorf("25.5: Int of %q = %d, %v, want %d, %v", c.text, got, ok, c.want, c.ok)
		}
	}
	for _, v := range [][]api.JNode{{node(api.JString, "1")}, {node(api.JNumber, "1"), node(api.JNumber, "1")}, {many(api.JList, 2), node(api.JNumber, "1")}, {keyed("k", node(api.JNumber, "1"))}, {node(api.JNull, "1")}, {many(api.JList, 2), node(api.JNumber, "1"), node(api.JString, "\xff")}} {
		for at := range v {
			if got, ok := json.Int(v, at); got != 0 || ok {
				t.Errorf("25.5: Int(%+v, %d) = %d, %v", v, at, got, ok)
			}
		}
	}
}

// 25.4, 25.5: random values, and ones near them.
func TestAsksRandom(t *testing.T) {
	r := rand.New(rand.NewSource(254))
	members, numbers := 0, 0
	for i := range 20000 {
		v := anyValue(r, "", 3)
		if i%3 == 0 {
			v = spoiltValue(r, v)
		}
		m, n := sameAsks(t, v)
		members, numbers = members+m, numbers+n
	}
	if members < 5000 || numbers < 1000 {
		t.Errorf("only %d members, %d numbers", members, numbers)
	}
}
