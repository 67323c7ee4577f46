package induce

import "slices"

// search looks for the smallest choice among open entries.
type search struct {
	open  []int
	alone []routes // of each open entry
	have  []routes // with none of the entries that are tried, with one of them, ..
}

// smallest returns the entries of the smallest choice with which the corpus is
// readable: all those that it must have, and as few of the open ones as possible.
// Each of these can be left out, so not all of them are in it.
func (c corpus) smallest(must, open []int) []int {
	s := search{open: open, have: []routes{c.routes(among(must))}}
	for _, entry := range open {
		s.alone = append(s.alone, c.routes(among([]int{entry})))
		s.have = append(s.have, make(routes, len(c)))
	}
	for size := range open {
		if more, ok := s.first(0, 0, size); ok {
			return slices.Sorted(slices.Values(append(more, must...)))
		}
	}
	return must
}

// first returns the first choice of some more open entries, from the given one
// on, with which the corpus is readable, if there is one. The routes of those that
// are tried already are kept, since there can be very many choices.
func (s search) first(tried, from, more int) (found []int, ok bool) {
	if more == 0 {
		return nil, s.have[tried].readable()
	}
	for i := from; i+more <= len(s.open); i++ {
		s.have[tried+1].join(s.have[tried], s.alone[i])
		if rest, ok := s.first(tried+1, i+1, more-1); ok {
			return append(rest, s.open[i]), true
		}
	}
	return nil, false
}
