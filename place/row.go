package place

import (
	"sort"
	"strings"
)

// stride: how many bytes of a row there are from one of its marks to the next, at the least; without marks every column of a long row would be counted from its beginning on.
const stride = 512

// border: a place between two characters of a row, from the row's beginning on, and the units ahead of it.
type border struct{ at, units int }

// row: its bytes in the text, and some of its borders if it is long. Marks count from the row's beginning, so that a row that moves keeps them.
type row struct {
	from, to int
	marks    []border
}

// cut: the rows of the text's bytes from a row's beginning up to a row's end.
func cut(text string, from, to int) []row {
	rows := make([]row, 0, strings.Count(text[from:to], "\n")+1)
	for {
		n := strings.IndexByte(text[from:to], '\n')
		if n < 0 {
			return append(rows, row{from, to, marks(text[from:to])})
		}
		rows = append(rows, row{from, from + n, marks(text[from : from+n])})
		from += n + 1
	}
}

func marks(line string) []border {
	if len(line) <= stride {
		return nil
	}
	var out []border
	units, next := 0, stride
	for at, r := range line {
		if at >= next {
			out = append(out, border{at, units})
			next = at + stride
		}
		units += width(r)
	}
	return out
}

// last: the row's last border that is within; within must hold of each border ahead of one of which it holds. The row's beginning, if it holds of none.
func (r row) last(text string, within func(border) bool) border {
	var begin border
	if n := sort.Search(len(r.marks), func(i int) bool { return !within(r.marks[i]) }); n > 0 {
		begin = r.marks[n-1]
	}
	line := text[r.from:r.to]
	best, here := begin, begin
	for i, c := range line[begin.at:] {
		here.at = begin.at + i
		if !within(here) {
			return best
		}
		best = here
		here.units += width(c)
	}
	here.at = len(line)
	if within(here) {
		return here
	}
	return best
}

// width: a character's units of UTF-16; a byte that is no UTF-8 comes as a rune of one unit.
func width(r rune) int {
	if r >= 1<<16 {
		return 2
	}
	return 1
}
