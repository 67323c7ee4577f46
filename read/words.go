package read

import (
	"cmp"
	"iter"
	"math/bits"
	"slices"

	"ostracon/api"
	"ostracon/grammar"
)

// places is a set of places of a line. A line has at most MaxLine signs, so it
// has less than 64 places.
type places uint64

// anywhere has all places.
const anywhere = ^places(0)

func placeSet(place int) places { return 1 << place }

// upTo returns the places from 0 to the last one.
func upTo(last int) places { return placeSet(last+1) - 1 }

func (s places) has(place int) bool { return s&placeSet(place) != 0 }

// before returns the places that are right before one of the set.
func (s places) before() places { return s >> 1 }

// last returns the greatest place of a set that is not empty.
func (s places) last() int { return bits.Len64(uint64(s)) - 1 }

// each goes through the places in ascending order.
func (s places) each() iter.Seq[int] {
	return func(yield func(int) bool) {
		for rest := s; rest != 0; rest &= rest - 1 {
			if !yield(bits.TrailingZeros64(uint64(rest))) {
				return
			}
		}
	}
}

// speller finds the words that the signs of a line spell.
type speller struct {
	house api.House
	uses  [][]api.Use        // of the sign at each place; none at the last one
	users map[api.Use]places // where signs with a use stand
}

func newSpeller(h api.House, line []int) speller {
	s := speller{h, append(usesOf(h, line), nil), map[api.Use]places{}}
	for place, uses := range s.uses {
		for _, u := range uses {
			s.users[u] |= placeSet(place)
		}
	}
	return s
}

// wordsFrom returns the words that are spelled from some places on, in
// ascending order of From, and those with the same From in the order of words.
func wordsFrom(h api.House, line []int, starts places) ([]api.Edge, api.Errno) {
	var found []api.Edge
	for word := range newSpeller(h, line).words(starts) {
		if len(found) == api.MaxEdges {
			return nil, api.ErrMany
		}
		found = append(found, word)
	}
	slices.SortFunc(found, compareEdges)
	return found, api.OK
}

func compareEdges(a, b api.Edge) int {
	return cmp.Or(
		cmp.Compare(a.From, b.From),
		cmp.Compare(a.To, b.To),
		cmp.Compare(a.Word.Form.Entry, b.Word.Form.Entry),
		cmp.Compare(a.Word.Form.Ending, b.Word.Form.Ending),
		slices.Compare(a.Word.Form.Clitics, b.Word.Form.Clitics),
		slices.CompareFunc(a.Word.Uses, b.Word.Uses, compareUses),
	)
}

// words goes through the words that are spelled from some places on.
func (s speller) words(starts places) iter.Seq[api.Edge] {
	return func(yield func(api.Edge) bool) {
		for stem := range stems(s.house.Lexicon) {
			w := grammar.WordingOf(s.house.Lexicon, stem)
			// Most stems are spelled nowhere; this is seen for all places at once.
			for at := range (starts & s.leading(w, anywhere)[0]).each() {
				if !s.lean(stem, at, yield) {
					return
				}
			}
		}
	}
}

// stems goes through the forms that have no clitics.
func stems(x api.Lexicon) iter.Seq[api.Form] {
	return func(yield func(api.Form) bool) {
		for i, entry := range x.Entries {
			if !yield(api.Form{Entry: i, Ending: grammar.NoEnding}) {
				return
			}
			for j, ending := range x.Endings {
				if ending.Kind == entry.Kind && !yield(api.Form{Entry: i, Ending: j}) {
					return
				}
			}
		}
	}
}

// lean goes through the words at a place that have a form, or this form with
// more clitics. It goes on to more of them only where the form itself is
// spelled, because a word with them begins with a word without them.
func (s speller) lean(f api.Form, at int, yield func(api.Edge) bool) bool {
	w := grammar.WordingOf(s.house.Lexicon, f)
	ways := s.leading(w, upTo(at+api.MaxUses))
	if !ways[0].has(at) {
		return true
	}
	if !s.spell(w, at, ways, yield) {
		return false
	}
	if len(f.Clitics) == api.MaxLean {
		return true
	}
	next := 0
	if len(f.Clitics) > 0 {
		next = f.Clitics[len(f.Clitics)-1] + 1
	}
	for c := next; c < len(s.house.Lexicon.Clitics); c++ {
		more := api.Form{Entry: f.Entry, Ending: f.Ending, Clitics: append(slices.Clone(f.Clitics), c)}
		if !s.lean(more, at, yield) {
			return false
		}
	}
	return true
}

// spell goes through the words at a place that have a wording; ways are those
// that lead to where these words may end.
func (s speller) spell(w grammar.Wording, at int, ways []places, yield func(api.Edge) bool) bool {
	var uses []api.Use
	var spell func(p grammar.Progress, place int) bool
	spell = func(p grammar.Progress, place int) bool {
		if w.Complete(p) && !yield(s.edge(w, at, uses)) {
			return false
		}
		for _, u := range s.uses[place] {
			next, ok := w.Take(p, u)
			if !ok || !s.perhapsRepeated(next.Echo, ways[next.Spelled]).has(place+1) {
				continue
			}
			uses = append(uses, u)
			if !spell(next, place+1) {
				return false
			}
			uses = uses[:len(uses)-1]
		}
		return true
	}
	return spell(grammar.Progress{}, at)
}

func (s speller) edge(w grammar.Wording, at int, uses []api.Use) api.Edge {
	word := copyWord(api.Spelled{Form: w.Form, Uses: uses})
	return api.Edge{From: at, To: at + len(uses), Cost: w.Cost(s.house.Costs, uses), Word: word}
}

// copyWord returns an equal word that shares no memory with this one.
func copyWord(w api.Spelled) api.Spelled {
	w.Form.Clitics = slices.Clone(w.Form.Clitics)
	w.Uses = slices.Clone(w.Uses)
	return w
}

// leading returns, for each number of sounds that may be spelled already, the
// places from which the others can be spelled, up to one of the ends. With it
// nothing is tried that cannot become a word: otherwise there could be far more
// beginnings of words than words.
func (s speller) leading(w grammar.Wording, ends places) []places {
	ways := make([]places, len(w.Sounds)+1)
	ways[len(w.Sounds)] = ends
	for spelled := len(w.Sounds); spelled >= 0; spelled-- {
		rest := w.Rest(spelled)
		for n := 1; n <= min(len(rest), api.MaxSounds); n++ {
			ways[spelled] |= s.using(api.Use{Kind: api.Spells, Text: rest[:n]}, ways[spelled+n])
		}
		if spelled == w.Body() {
			ways[spelled] |= s.using(api.Use{Kind: api.Closes, Text: w.Class}, ways[spelled])
		}
	}
	ways[0] |= s.using(api.Use{Kind: api.Stands, Text: w.Root}, ways[len(w.Root)])
	return ways
}

// using returns the places where a sign has a use behind which a word goes on
// at one of some places, right there or with a repetition in between.
func (s speller) using(u api.Use, on places) places {
	signs := s.users[u]
	if signs == 0 {
		return 0
	}
	return signs & s.perhapsRepeated(grammar.Echo(u), on).before()
}

// perhapsRepeated returns some places, and those where a sign that repeats the
// end of an echo stands right before one of them.
func (s speller) perhapsRepeated(echo string, on places) places {
	var signs places
	for i := range len(echo) {
		signs |= s.users[api.Use{Kind: api.Repeats, Text: echo[i:]}]
	}
	return on | signs&on.before()
}
