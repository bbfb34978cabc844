package json

import (
	"unicode/utf8"

	"trellis/api"
)

// keys: those of one object, as far as it has been gone through.
type keys map[string]struct{}

// add: one more; false: it is there already.
func (k keys) add(key string) bool {
	n := len(k)
	k[key] = struct{}{}
	return len(k) > n
}

// behind: the place behind the value that begins at a place, within so many lists and objects; none: it is not well shaped. (Its own key is not looked at: what it stands in says which one it may have.)
func behind(v []api.JNode, at, depth int) int {
	if !sound(v[at]) || holds(v[at].Kind) && depth == api.MaxJdeep {
		return none
	}
	in := v[at]
	var before keys
	if in.Kind == api.JObject {
		before = keys{}
	}
	at++
	for range in.Kids { // which may be more than there are
		if at >= len(v) || !keyed(in.Kind, v[at].Key, before) {
			return none
		}
		if at = behind(v, at, depth+1); at == none {
			return none
		}
	}
	return at
}

// holds: do others stand in values of that kind?
func holds(kind api.JKind) bool { return kind == api.JList || kind == api.JObject }

// keyed: may a value in one of that kind have the key, behind those ahead of it?
func keyed(in api.JKind, key string, before keys) bool {
	if in == api.JObject {
		return utf8.ValidString(key) && before.add(key)
	}
	return key == ""
}

// sound: do a node's text and the number of what stands in it fit its kind?
func sound(n api.JNode) bool {
	switch n.Kind {
	case api.JNull, api.JFalse, api.JTrue:
		return n.Text == "" && n.Kids == 0
	case api.JNumber:
		return isNumber(n.Text) && n.Kids == 0
	case api.JString:
		return utf8.ValidString(n.Text) && n.Kids == 0
	case api.JList, api.JObject:
		return n.Text == "" && n.Kids >= 0
	}
	return false
}

// skip: the place behind the value that begins at a place of a well shaped one.
func skip(v []api.JNode, at int) int {
	for left := 1; left > 0; at++ {
		left += v[at].Kids - 1
	}
	return at
}
