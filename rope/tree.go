package rope

import "strings"

// maxChunk: small enough that an edit may write a chunk anew, great enough that a text has few of them.
const maxChunk = 1024

// tree: chunks one behind the other. None changes once it is made, so that many ropes can have it in common.
//
// The two sides of a branch differ by at most one level, and no leaf is empty but that of the empty text: a tree has at most as many leaves as bytes, and so at most 1.5 times as many levels as their number has binary digits, and one more.
type tree interface {
	size() int
	levels() int
}

// leaf: a chunk of bytes.
type leaf string

func (l leaf) size() int   { return len(l) }
func (l leaf) levels() int { return 1 }

// branch: two trees beside one another.
type branch struct {
	left, right    tree
	length, height int
}

func (b *branch) size() int   { return b.length }
func (b *branch) levels() int { return b.height }

func pair(left, right tree) *branch {
	return &branch{left, right, left.size() + right.size(), 1 + max(left.levels(), right.levels())}
}

// build: halves differ by at most one byte, so their trees differ by at most one level.
func build(text string) tree {
	if len(text) <= maxChunk {
		// A mere piece would hold on to the whole text as long as the chunk lives.
		return leaf(strings.Clone(text))
	}
	half := len(text) / 2
	return pair(build(text[:half]), build(text[half:]))
}

// parts: a tree as two, one behind the other.
func parts(t tree) (tree, tree) {
	switch x := t.(type) {
	case *branch:
		return x.left, x.right
	}
	return t, leaf("")
}

// join: the two trees, one behind the other. The lower one goes in where the higher one's edge is no higher than it; so it costs what their heights differ by, and the answer has at most one level more than the higher one.
func join(a, b tree) tree {
	switch {
	case a.size() == 0:
		return b
	case b.size() == 0:
		return a
	case a.levels() > b.levels()+1:
		left, right := parts(a)
		return balance(left, join(right, b))
	case b.levels() > a.levels()+1:
		left, right := parts(b)
		return balance(join(a, left), right)
	}
	return pair(a, b)
}

// balance: the two trees, which differ by at most two levels, one behind the other. If they differ by two, the higher one is taken apart; its inner part too, if that is its higher one, since it would stay as deep otherwise.
func balance(a, b tree) tree {
	switch {
	case a.levels() > b.levels()+1:
		outer, inner := parts(a)
		if inner.levels() > outer.levels() {
			near, far := parts(inner)
			return pair(pair(outer, near), pair(far, b))
		}
		return pair(outer, pair(inner, b))
	case b.levels() > a.levels()+1:
		inner, outer := parts(b)
		if inner.levels() > outer.levels() {
			near, far := parts(inner)
			return pair(pair(a, near), pair(far, outer))
		}
		return pair(pair(a, inner), outer)
	}
	return pair(a, b)
}

// ahead: the chunks ahead of the one in which a place is (of two: the first), and that one's bytes ahead of the place.
func ahead(t tree, at int) (tree, string) {
	switch x := t.(type) {
	case leaf:
		return leaf(""), string(x[:at])
	case *branch:
		n := x.left.size()
		if at <= n {
			return ahead(x.left, at)
		}
		rest, head := ahead(x.right, at-n)
		return join(x.left, rest), head
	}
	return leaf(""), ""
}

// behind: the bytes from a place on of the chunk in which it is (of two: the second), and the chunks behind that one.
func behind(t tree, at int) (string, tree) {
	switch x := t.(type) {
	case leaf:
		return string(x[at:]), leaf("")
	case *branch:
		n := x.left.size()
		if at >= n {
			return behind(x.right, at-n)
		}
		tail, rest := behind(x.left, at)
		return tail, join(rest, x.right)
	}
	return "", leaf("")
}

// find: the chunk that has the byte at a place, and the place of its first byte.
func find(t tree, at int) (string, int) {
	start := 0
	for {
		switch x := t.(type) {
		case leaf:
			return string(x), start
		case *branch:
			n := x.left.size()
			if at-start < n {
				t = x.left
			} else {
				t = x.right
				start += n
			}
		}
	}
}

func write(out *strings.Builder, t tree, from, to int) {
	switch x := t.(type) {
	case leaf:
		out.WriteString(string(x[from:to]))
	case *branch:
		n := x.left.size()
		if from < n {
			write(out, x.left, from, min(to, n))
		}
		if to > n {
			write(out, x.right, max(from-n, 0), to-n)
		}
	}
}
