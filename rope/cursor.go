package rope

// Cursor reads a rope byte by byte, and knows how far it has looked.
type Cursor struct {
	root    tree
	at, far int
	// The chunk that was read last, and the place of its first byte: the next byte mostly stands in it too, and is found without a way through the tree.
	chunk string
	start int
}

// Next: the byte at the place; the place moves on; false: the text is at its end.
func (c *Cursor) Next() (byte, bool) {
	if c.at == c.root.size() {
		c.far = c.at + 1
		return 0, false
	}
	if c.at < c.start || c.at >= c.start+len(c.chunk) {
		c.chunk, c.start = find(c.root, c.at)
	}
	b := c.chunk[c.at-c.start]
	c.at++
	c.far = max(c.far, c.at)
	return b, true
}

// Back: the place moves back; false: it stands at 0.
func (c *Cursor) Back() bool {
	if c.at == 0 {
		return false
	}
	c.at--
	return true
}

// At: the place.
func (c *Cursor) At() int { return c.at }

// Far: behind the last byte that has been looked at; one more than the length if the end has been.
func (c *Cursor) Far() int { return c.far }
