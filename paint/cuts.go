package paint

import "slices"

// cuts: the places at which a class may change, sorted; and by place its number among them.
func cuts(l []area) ([]int, map[int]int) {
	number := map[int]int{}
	for _, a := range l {
		number[a.from], number[a.to] = 0, 0
	}
	var places []int
	for p := range number {
		places = append(places, p)
	}
	slices.Sort(places)
	for i, p := range places {
		number[p] = i
	}
	return places, number
}

// classes: by cut the class of the bytes from it on up to the next one. Each goes to the first area that has them.
func classes(l []area, number map[int]int) []string {
	out := make([]string, len(number))
	free := newRow(len(number))
	for _, a := range l {
		end := number[a.to]
		for at := free.from(number[a.from]); at < end; at = free.from(at) {
			out[at] = a.class
			free.take(at)
		}
	}
	return out
}

// row: numbers of which some have been taken: a free one leads to itself, a taken one to a later number such that all between are taken too. So those that are taken are passed over in few steps, however many they are.
type row []int

func newRow(n int) row {
	out := make(row, n)
	for at := range out {
		out[at] = at
	}
	return out
}

// from: the first number from that one on that is free. (The last one is never taken.)
func (l row) from(at int) int {
	for l[at] != at {
		l[at] = l[l[at]]
		at = l[at]
	}
	return at
}

func (l row) take(at int) { l[at] = at + 1 }
