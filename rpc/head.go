package rpc

import "trellis/api"

// What stands in each frame ahead of the number, and behind it.
const (
	opening = "Content-Length: "
	closing = "\r\n\r\n"
)

// readHead: what stands behind the head at the beginning, and how many bytes the body has.
func readHead(b []byte) ([]byte, int, api.Errno) {
	b, code := behind(b, opening)
	if code != api.OK {
		return nil, 0, code
	}
	b, length, code := readLength(b)
	if code != api.OK {
		return nil, 0, code
	}
	b, code = behind(b, closing)
	return b, length, code
}

// behind: what stands behind a text with which the bytes must begin.
func behind(b []byte, text string) ([]byte, api.Errno) {
	for i := range len(text) {
		if i == len(b) {
			return nil, api.ErrMore
		}
		if b[i] != text[i] {
			return nil, api.ErrHead
		}
	}
	return b[len(text):], api.OK
}

func isDigit(b byte) bool { return b >= '0' && b <= '9' }

// readLength: what stands behind the number at the beginning, and the number. It is refused at the digit with which it is too great, so that digits without end make no number that is greater.
func readLength(b []byte) ([]byte, int, api.Errno) {
	n, at := 0, 0
	for at < len(b) && isDigit(b[at]) {
		if at > 0 && n == 0 { // a leading zero: one body would have two frames
			return nil, 0, api.ErrHead
		}
		n = 10*n + int(b[at]-'0')
		if n > api.MaxFrame {
			return nil, 0, api.ErrFrame
		}
		at++
	}
	if at == 0 && len(b) > 0 {
		return nil, 0, api.ErrHead
	}
	return b[at:], n, api.OK
}
