package spell

import (
	"cmp"
	"iter"
	"slices"

	"ostracon/api"
	"ostracon/grammar"
	"ostracon/signs"
)

// scribe writes with the signs of a house, after habits.
type scribe struct {
	house  api.House
	habits api.Habits
	users  map[api.Use][]int // the signs that are used so, the cheapest one first
}

func newScribe(h api.House, b api.Habits) scribe {
	s := scribe{h, b, map[api.Use][]int{}}
	// signs.Bearers would examine the whole list again for each use.
	list, _ := signs.Restrict(h.List, h.Period)
	for sign, number := range b.Signs {
		if number == unused {
			continue
		}
		for _, v := range list.Signs[sign].Values {
			for _, u := range grammar.UsesFor(v) {
				s.users[u] = append(s.users[u], sign)
			}
		}
	}
	for _, signs := range s.users {
		slices.SortStableFunc(signs, func(x, y int) int { return cmp.Compare(b.Signs[x], b.Signs[y]) })
	}
	return s
}

// state is all of the beginning of a spelling that matters for what can follow.
type state struct {
	grammar.Progress
	signs int // how many it has
}

// size is what orders spellings first.
type size struct {
	cost, signs int
}

func (a size) compare(b size) int {
	return cmp.Or(cmp.Compare(a.cost, b.cost), cmp.Compare(a.signs, b.signs))
}

// outlook says which ends of spellings can follow a state.
type outlook struct {
	ends  int  // how many there are, at most MaxCount
	least size // of the first one
}

// add adds ends to an outlook.
func (o *outlook) add(ends int, least size) {
	if ends == 0 {
		return
	}
	if o.ends == 0 || least.compare(o.least) < 0 {
		o.least = least
	}
	o.ends = min(o.ends+ends, api.MaxCount)
}

// speller finds the spellings of a form.
type speller struct {
	scribe
	grammar.Wording
	outlooks map[state]outlook
}

func (s scribe) speller(f api.Form) speller {
	return speller{s, grammar.WordingOf(s.house.Lexicon, f), map[state]outlook{}}
}

func (s speller) count() int { return s.outlook(state{}).ends }

// outlook returns what can follow a state, which it finds but once.
func (s speller) outlook(at state) outlook {
	if o, ok := s.outlooks[at]; ok {
		return o
	}
	var o outlook
	if s.mayEnd(at) {
		o.add(1, size{s.endCost(at), 0})
	}
	for u, next := range s.follow(at) {
		if users := s.users[u]; len(users) > 0 {
			rest := s.outlook(next)
			o.add(len(users)*rest.ends, size{s.signCost(users[0], u) + rest.least.cost, 1 + rest.least.signs})
		}
	}
	s.outlooks[at] = o
	return o
}

// follow goes through the uses that can come next, each with the state behind it.
func (s speller) follow(at state) iter.Seq2[api.Use, state] {
	return func(yield func(api.Use, state) bool) {
		if at.signs == api.MaxUses {
			return
		}
		for u, next := range s.Follow(at.Progress) {
			if mayFollow(s.habits, at.Progress, u) && !yield(u, state{next, at.signs + 1}) {
				return
			}
		}
	}
}

func (s speller) mayEnd(at state) bool {
	return s.Complete(at.Progress) && mayEnd(s.habits, s.Wording, at.Progress)
}

// signCost returns what a sign with a use adds to the cost of a spelling.
func (s speller) signCost(sign int, u api.Use) int {
	return s.habits.Signs[sign] + grammar.UseCost(s.house.Costs, u)
}

// endCost returns what it adds that a spelling ends at a state.
func (s speller) endCost(at state) int { return s.OpenCost(s.house.Costs, at.Closed) }
