package items

import (
	"strconv"

	"trellis/api"
)

// found: the sets so far. Of each only its kernel is kept, of which it is the closure: a closure may be great, and whether there are too many of them is known at the end.
type found struct {
	kernels [][]group
	numbers map[string]int // by the kernel's key
}

// number: that of the set with this kernel; the next one if it is new.
func (f *found) number(kernel []group) int {
	k := key(kernel)
	n, ok := f.numbers[k]
	if !ok {
		n = len(f.kernels)
		f.numbers[k] = n
		f.kernels = append(f.kernels, kernel)
	}
	return n
}

// key: the kernel as a text. A closure puts in dots at 0 alone, and never production 0; in kernels there is no other dot at 0 than that of production 0. So two sets are the same just if their kernels are.
func key(kernel []group) string {
	var out []byte
	for _, x := range kernel {
		out = strconv.AppendInt(out, int64(x.prod), 10)
		out = append(out, '.')
		out = strconv.AppendInt(out, int64(x.dot), 10)
		out = append(out, '/')
		out = strconv.AppendUint(out, uint64(x.looks), 16)
		out = append(out, ' ')
	}
	return string(out)
}

// reach: the kernels of all sets, and by set and symbol the set behind it; of more than MaxStates only as many as tell that there are more.
func (s *studied) reach() ([][]group, [][]int) {
	f := &found{numbers: map[string]int{}}
	f.number([]group{{looks: end}})
	var gotos [][]int
	for at := 0; at < len(f.kernels) && len(f.kernels) <= api.MaxStates; at++ {
		row := make([]int, symbols(s.Gram))
		for symbol, kernel := range s.moved(s.closed(f.kernels[at])) {
			row[symbol] = -1
			if len(kernel) > 0 {
				row[symbol] = f.number(kernel)
			}
		}
		gotos = append(gotos, row)
	}
	return f.kernels, gotos
}
