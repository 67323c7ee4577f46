package wall

import (
	"cmp"
	"math"
	"slices"

	"ostracon/api"
	"ostracon/queue"
)

// rank is the changes and the signs of a restoration in one number, which orders
// restorations as both do.
func rank(changes, signs int) int { return changes*(api.MaxLine+1) + signs }

// path is the beginning of a restoration, or a whole one.
type path struct {
	signs   []int
	at      string // the positions to which they lead
	changes []int  // from each beginning of the parallel to the signs
	whole   bool
	first   int // the rank of the first restoration that begins so
}

// compare is the order of the first restorations that begin with two paths. If
// one of them begins with the other, that one is whole, so their ranks differ.
func (a path) compare(b path) int {
	return cmp.Or(cmp.Compare(a.first, b.first), slices.Compare(a.signs, b.signs))
}

// search finds the restorations by a parallel.
type search struct {
	strip
	parallel []int
	groups   [][]int // of signs that neither a slot nor the parallel tells apart
	rest     [][]int // the rank of the best rest, from a position and a place of the parallel on
}

// restorations returns the first restorations of cells by a parallel, in order.
// Each path that is put behind the empty one goes on to a restoration, and its
// first one comes before all restorations of the paths behind it, so no more paths
// need to wait than there are restorations to be listed.
func restorations(signs int, cells []api.Cell, parallel []int, most int) []api.Restored {
	s := newSearch(newStrip(signs, cells), parallel)
	waiting := queue.New(most, path.compare)
	waiting.Put(s.begin())
	var found []api.Restored
	for len(found) < most {
		p, ok := waiting.Take()
		if !ok {
			break
		}
		if p.whole {
			found = append(found, restored(cells, parallel, p.signs))
			continue
		}
		s.extend(p, waiting)
	}
	return found
}

// restored returns the restoration that has the signs of a line that agrees.
func restored(cells []api.Cell, parallel, line []int) api.Restored {
	division, _ := divide(cells, line)
	best := align(line, parallel)
	return api.Restored{Signs: line, Cells: division, Source: best.source(), Changes: best.changes()}
}

func newSearch(of strip, parallel []int) search {
	s := search{of, parallel, of.twins(parallel...), newTable[int](len(of.slots)+1, len(parallel)+1)}
	for p := len(s.slots); p >= 0; p-- {
		for place := len(parallel); place >= 0; place-- {
			s.rest[p][place] = s.restAt(p, place)
		}
	}
	return s
}

// restAt returns the rank of the best rest, from those of shorter ones.
func (s search) restAt(p, place int) int {
	if p == len(s.slots) {
		return rank(len(s.parallel)-place, 0)
	}
	x := s.slots[p]
	best := s.rest[p+1][place] + rank(1, 1)
	if x.open {
		best = min(best, s.rest[p+1][place])
	}
	if place < len(s.parallel) {
		changes := 1
		if x.allows[s.parallel[place]] {
			changes = 0
		}
		best = min(best, s.rest[p][place+1]+rank(1, 0), s.rest[p+1][place+1]+rank(changes, 1))
	}
	return best
}

// begin returns the path without signs.
func (s search) begin() path {
	p := path{at: s.start()}
	for place := range len(s.parallel) + 1 {
		p.changes = append(p.changes, place)
	}
	return p
}

// extend puts the paths that end or go on with one more sign in place of one.
func (s search) extend(p path, waiting *queue.Queue[path]) {
	if s.mayEnd(p.at) {
		whole := p
		whole.whole = true
		whole.first = rank(p.changes[len(s.parallel)], len(p.signs))
		waiting.Put(whole)
	}
	for _, signs := range s.groups {
		more := path{at: s.step(p.at, signs[0])}
		if more.at == "" {
			continue
		}
		more.changes = s.follow(p.changes, signs[0])
		more.first = s.best(more.at, more.changes, len(p.signs)+1)
		for _, sign := range signs {
			more.signs = append(slices.Clone(p.signs), sign)
			if !waiting.Put(more) {
				break // with the signs behind this one it would come later still
			}
		}
	}
}

// follow returns the changes from each beginning of the parallel to a line with
// one more sign.
func (s search) follow(changes []int, sign int) []int {
	next := []int{changes[0] + 1}
	for place, x := range s.parallel {
		next = append(next, min(changes[place+1]+1, next[place]+1, changes[place]+difference(x, sign)))
	}
	return next
}

// best returns the rank of the first restoration that begins with so many signs,
// which lead to some positions and take some changes.
func (s search) best(at string, changes []int, signs int) int {
	best := math.MaxInt
	for _, p := range at {
		for place, n := range changes {
			best = min(best, rank(n, signs)+s.rest[p][place])
		}
	}
	return best
}
