package spell

import (
	"cmp"
	"slices"

	"ostracon/api"
	"ostracon/queue"
)

// stroke is a sign and its use.
type stroke struct {
	sign int
	use  api.Use
}

func (a stroke) compare(b stroke) int {
	return cmp.Or(cmp.Compare(a.sign, b.sign), cmp.Compare(a.use.Kind, b.use.Kind), cmp.Compare(a.use.Text, b.use.Text))
}

// path is the beginning of a spelling, or a whole one.
type path struct {
	strokes []stroke
	cost    int // without what follows
	at      state
	whole   bool
	first   size // of the first spelling that begins so
}

// compare is the order of the first spellings that begin with two paths. If one
// of them begins with the other, that one is whole, so their sizes differ.
func (a path) compare(b path) int {
	return cmp.Or(a.first.compare(b.first), slices.CompareFunc(a.strokes, b.strokes, stroke.compare))
}

func (p path) spelling() api.Spelling {
	found := api.Spelling{Cost: p.first.cost}
	for _, x := range p.strokes {
		found.Signs = append(found.Signs, x.sign)
		found.Uses = append(found.Uses, x.use)
	}
	return found
}

// first returns the first spellings, in order. Each path that is put behind the
// empty one goes on to a spelling, and its first one comes before all spellings of
// the paths behind it, so no more paths need to wait than there are spellings to
// be listed.
func (s speller) first(most int) []api.Spelling {
	waiting := queue.New(most, path.compare)
	waiting.Put(path{cost: s.Weight})
	var found []api.Spelling
	for len(found) < most {
		p, ok := waiting.Take()
		if !ok {
			break
		}
		if p.whole {
			found = append(found, p.spelling())
			continue
		}
		s.extend(p, waiting)
	}
	return found
}

// extend puts the paths that end or go on with one more sign in place of one.
func (s speller) extend(p path, waiting *queue.Queue[path]) {
	if s.mayEnd(p.at) {
		whole := p
		whole.whole = true
		whole.first = size{p.cost + s.endCost(p.at), p.at.signs}
		waiting.Put(whole)
	}
	for u, next := range s.follow(p.at) {
		rest := s.outlook(next)
		if rest.ends == 0 {
			continue
		}
		for _, sign := range s.users[u] {
			more := path{strokes: append(slices.Clone(p.strokes), stroke{sign, u}), cost: p.cost + s.signCost(sign, u), at: next}
			more.first = size{more.cost + rest.least.cost, next.signs + rest.least.signs}
			if !waiting.Put(more) {
				break // with the signs behind this one it would come later still
			}
		}
	}
}
