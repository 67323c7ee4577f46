package read

import (
	"cmp"
	"slices"

	"ostracon/api"
	"ostracon/queue"
)

// path is the beginning of a reading: its words, by their numbers among those
// from the same place on.
type path struct {
	words []int
	to    int
	cost  int // the least one of a reading that begins so
}

// compare is the order of the first readings that begin with two paths, neither
// of which begins with the other. Where they part they are at the same place, so
// the numbers of their words have the order of the words.
func (a path) compare(b path) int {
	return cmp.Or(cmp.Compare(a.cost, b.cost), slices.Compare(a.words, b.words))
}

// lister lists the readings of a forest. Each path that waits goes on to a
// reading, and its first one comes before all readings of the paths behind it,
// so no more paths need to wait than there are readings to be listed.
type lister struct {
	forest
	paths *queue.Queue[path]
}

// first returns the first readings of a line that has any.
func (f forest) first(most int) []api.Reading {
	l := lister{f, queue.New(most, path.compare)}
	l.paths.Put(path{cost: f.least[0]})
	var found []api.Reading
	for len(found) < most {
		p, ok := l.paths.Take()
		if !ok {
			break
		}
		if p.to == len(l.words)-1 {
			found = append(found, l.reading(p))
			continue
		}
		l.extend(p)
	}
	return found
}

// extend puts the paths that go on with one more word in place of one.
func (l *lister) extend(p path) {
	for i, word := range l.words[p.to] {
		if l.least[word.To] == impossible {
			continue
		}
		more := p.cost - l.least[p.to] + word.Cost + l.least[word.To]
		l.paths.Put(path{append(slices.Clone(p.words), i), word.To, more})
	}
}

// reading returns the reading of a path to the end of the line. Many readings
// have the same word, so each gets a copy of its own.
func (l *lister) reading(p path) api.Reading {
	r := api.Reading{Cost: p.cost}
	place := 0
	for _, i := range p.words {
		word := l.words[place][i]
		r.Words = append(r.Words, copyWord(word.Word))
		place = word.To
	}
	return r
}
