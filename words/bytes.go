package words

import "strings"

// What a byte is to words. These take a number, so that end can be asked about like any byte: it is none of them.

const (
	signs   = "{}()|*+?:;,=@"
	escaped = `"\ntr`      // behind a backslash ..
	meant   = "\"\\\n\t\r" // .. it stands for the byte that has its place here
	digits  = "0123456789abcdef"
)

const (
	end  = -1 // what is read where a text ends
	none = -1 // what is answered where there is no byte to tell
)

func isBlank(b int) bool { return b == ' ' || b == '\t' || b == '\r' || b == '\n' }

func isDigit(b int) bool { return b >= '0' && b <= '9' }

func isLetter(b int) bool { return b >= 'a' && b <= 'z' || b >= 'A' && b <= 'Z' || b == '_' }

func isInName(b int) bool { return isLetter(b) || isDigit(b) }

func isSign(b int) bool { return b != end && strings.IndexByte(signs, byte(b)) >= 0 }

// stops: does a line or the text end there? (No string, regex or comment goes further.)
func stops(b int) bool { return b == end || b == '\n' }

// base16: a digit's value, or none.
func base16(b int) int {
	switch {
	case isDigit(b):
		return b - '0'
	case b >= 'a' && b <= 'f':
		return b - 'a' + 10
	case b >= 'A' && b <= 'F':
		return b - 'A' + 10
	}
	return none
}
