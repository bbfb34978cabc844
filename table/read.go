package table

import (
	"math"

	"trellis/api"
)

// broken: the refusal of an image at a place.
func broken(at int) error { return &api.Broken{Code: api.ErrImage, At: at} }

// reader: an image, and up to where it has been read.
type reader struct {
	image string
	at    int
}

// read: the table of an image. A count that cannot be read is an errCount with its place; whatever else cannot be, is broken.
func read(image string) (api.Table, error) {
	r := &reader{image: image}
	states, tokens, syms, err := r.sizes()
	if err != nil {
		return api.Table{}, err
	}
	actions, err := rows(states, tokens, func() (api.Action, error) { return r.action(states) })
	if err != nil {
		return api.Table{}, err
	}
	gotos, err := rows(states, syms, func() (int, error) { return r.entry(states) })
	if err != nil {
		return api.Table{}, err
	}
	if r.at < len(image) {
		return api.Table{}, broken(r.at)
	}
	return api.Table{Actions: actions, Gotos: gotos}, nil
}

// sizes reads what stands ahead of the rows: how many states, tokens and Syms there are.
func (r *reader) sizes() (states, tokens, syms int, err error) {
	if err = r.head(); err != nil {
		return
	}
	if states, err = r.count(1, api.MaxStates); err != nil {
		return
	}
	if tokens, err = r.count(1, mostTokens); err != nil {
		return
	}
	syms, err = r.count(0, api.MaxSyms)
	return
}

func (r *reader) head() error {
	for ; r.at < len(head); r.at++ {
		if r.at == len(r.image) || r.image[r.at] != head[r.at] {
			return broken(r.at)
		}
	}
	return nil
}

// count reads one that is least to most.
func (r *reader) count(least, most int) (int, error) {
	n, size, err := firstCount(r.image[r.at:])
	if err != nil {
		return 0, &placed{r.at, err}
	}
	if n < uint64(least) || n > uint64(most) {
		return 0, broken(r.at)
	}
	r.at += size
	return int(n), nil
}

func (r *reader) action(states int) (api.Action, error) {
	from := r.at
	n, err := r.count(0, math.MaxInt)
	if err != nil {
		return api.Action{}, err
	}
	a := actionOf(n)
	if !mayDo(a, states) {
		return api.Action{}, broken(from)
	}
	return a, nil
}

func (r *reader) entry(states int) (int, error) {
	n, err := r.count(0, states)
	if err != nil {
		return 0, err
	}
	return n - 1, nil
}

// rows reads that many rows, each of that many entries. (No row is made ahead of those that the image goes on to.)
func rows[T any](n, width int, one func() (T, error)) ([][]T, error) {
	out := make([][]T, n)
	for i := range out {
		out[i] = make([]T, width)
		for j := range out[i] {
			x, err := one()
			if err != nil {
				return nil, err
			}
			out[i][j] = x
		}
	}
	return out, nil
}
