package lexicon

import (
	"cmp"
	"slices"

	"ostracon/api"
)

// firsts keeps the first ones of the elements that are put into it, in order.
type firsts[T any] struct {
	most int
	kept []T
}

// put puts an element in front of the first one that it comes before. It
// reports whether the element is among the first ones.
func (l *firsts[T]) put(x T, before func(other T) bool) bool {
	if len(l.kept) == l.most {
		if !before(l.kept[l.most-1]) {
			return false
		}
		l.kept = l.kept[:l.most-1]
	}
	at := slices.IndexFunc(l.kept, before)
	if at < 0 {
		at = len(l.kept)
	}
	l.kept = slices.Insert(l.kept, at, x)
	return true
}

// chain is a cut of the sounds from a place on into stems and tails: its first
// part, and what follows it (nil: it has no parts).
type chain struct {
	part   part
	weight int
	rest   *chain
}

// before reports whether a chain comes before another one of the same sounds.
func (c *chain) before(other *chain) bool {
	if c.weight != other.weight {
		return c.weight < other.weight
	}
	for ; c.rest != nil && other.rest != nil; c, other = c.rest, other.rest {
		if order := compareForms(c.part.form, other.part.form); order != 0 {
			return order < 0
		}
	}
	return false
}

// firstCuts returns the first cuts of a line of sounds, in order.
func firstCuts(x api.Lexicon, s string, most int) []Cut {
	var cuts []Cut
	for _, c := range firstChains(x, s, most) {
		cut := Cut{Weight: c.weight}
		for ; c.rest != nil; c = c.rest.rest {
			cut.Forms = append(cut.Forms, join(c.part, c.rest.part))
		}
		cuts = append(cuts, cut)
	}
	return cuts
}

// firstChains returns the first chains of stems and tails, by turns, in order.
// None of them goes on, from any place, with anything but one of the first
// chains from there.
func firstChains(x api.Lexicon, s string, most int) []*chain {
	stems, tails := lightFirst(allStems(x)), lightFirst(tailsOf(x))
	whole := make([][]*chain, len(s)+1)   // those that begin with a stem, from each place on
	stemmed := make([][]*chain, len(s)+1) // those that begin with a tail
	whole[len(s)] = []*chain{{}}
	for at := len(s); at > 0; at-- {
		stemmed[at] = lead(tails, s, at, whole, most)
		whole[at-1] = lead(stems, s, at-1, stemmed, most)
	}
	return whole[0]
}

// lightFirst returns parts by their weights. Of those that are put into a list
// in this order, few have to make room for a later one.
func lightFirst(parts []part) []part {
	return slices.SortedStableFunc(slices.Values(parts), func(a, b part) int { return cmp.Compare(a.weight, b.weight) })
}

// lead returns the first chains, from a place on, of one of some parts and one
// of the chains from its end on.
func lead(parts []part, s string, at int, rests [][]*chain, most int) []*chain {
	list := firsts[*chain]{most: most}
	for p := range opening(parts, s[at:]) {
		for _, rest := range rests[at+len(p.sounds)] {
			c := &chain{p, p.weight + rest.weight, rest}
			if !list.put(c, c.before) {
				break // with the rests behind this one it would come later still
			}
		}
	}
	return list.kept
}

// waysTo returns, for each place of a line of sounds, how many cuts the sounds
// before it have.
func waysTo(x api.Lexicon, s string) []int {
	stems, tails := allStems(x), tailsOf(x)
	whole := make([]int, len(s)+1)
	stemmed := make([]int, len(s)+1) // with a last form whose tail is still to come
	whole[0] = 1
	for at := range whole {
		advance(tails, s, at, stemmed[at], whole)
		advance(stems, s, at, whole[at], stemmed)
	}
	return whole
}

// advance adds the ways to a place to those to the end of each part that stands there.
func advance(parts []part, s string, at, ways int, to []int) {
	if ways == 0 {
		return
	}
	for p := range opening(parts, s[at:]) {
		end := at + len(p.sounds)
		to[end] = min(to[end]+ways, api.MaxCount)
	}
}
