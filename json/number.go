package json

func isDigit(b int) bool { return b >= '0' && b <= '9' }

// number: the place behind the number that begins at a place, as far as it goes; false: the place of what cannot stand in one.
func number(text string, at int) (int, bool) {
	var ok bool
	if byteAt(text, at) == '-' {
		at++
	}
	if byteAt(text, at) == '0' {
		at++ // nothing further: no digit stands behind such a one
	} else if at, ok = digits(text, at); !ok {
		return at, false
	}
	if byteAt(text, at) == '.' {
		if at, ok = digits(text, at+1); !ok {
			return at, false
		}
	}
	if b := byteAt(text, at); b != 'e' && b != 'E' {
		return at, true
	}
	at++
	if b := byteAt(text, at); b == '+' || b == '-' {
		at++
	}
	return digits(text, at)
}

// digits: the place behind the digits from a place on; false: there is none.
func digits(text string, at int) (int, bool) {
	from := at
	for isDigit(byteAt(text, at)) {
		at++
	}
	return at, at > from
}

// isNumber: is all of the text one?
func isNumber(text string) bool {
	to, ok := number(text, 0)
	return ok && to == len(text)
}
