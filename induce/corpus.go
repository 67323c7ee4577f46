package induce

import (
	"slices"

	"ostracon/api"
	"ostracon/read"
)

// choice says which entries of a lexicon are wanted.
type choice func(entry int) bool

// everything wants all entries.
func everything(int) bool { return true }

// among wants some entries of a valid lexicon alone.
func among(keep []int) choice {
	var kept [api.MaxWords]bool
	for _, entry := range keep {
		kept[entry] = true
	}
	return func(entry int) bool { return kept[entry] }
}

// without wants one entry less.
func (wanted choice) without(entry int) choice {
	return func(other int) bool { return other != entry && wanted(other) }
}

// corpus has the lines of a corpus.
type corpus []line

// line has the words that are in readings of a line with all entries: no others
// are in its readings with some of them.
type line struct {
	signs int
	words []word
}

// word is where words of an entry stand: their uses do not matter.
type word struct {
	from, to, entry int
}

// newCorpus returns a corpus, or the first error of a house and of lines.
func newCorpus(h api.House, lines [][]int) (corpus, api.Errno) {
	if e := read.CheckHouse(h); e != api.OK {
		return nil, e
	}
	if len(lines) > api.MaxCorpus {
		return nil, api.ErrMany
	}
	c := make(corpus, len(lines))
	for i, signs := range lines {
		edges, e := read.Forest(h, signs)
		if e != api.OK {
			return nil, e
		}
		c[i] = line{signs: len(signs), words: wordsOf(edges)}
	}
	return c, api.OK
}

// wordsOf returns where the words of a forest stand; those of an entry that have
// the same signs follow each other there.
func wordsOf(edges []api.Edge) []word {
	var words []word
	for _, d := range edges {
		words = append(words, word{d.From, d.To, d.Word.Form.Entry})
	}
	return slices.Compact(words)
}

// readable reports whether all lines are readable with the wanted entries.
func (c corpus) readable(wanted choice) bool {
	return c.routes(wanted).readable()
}

// needs returns the lines that are readable with the wanted entries, and not
// without one of them.
func (c corpus) needs(wanted choice, entry int) []int {
	var needy []int
	for i, l := range c {
		with, without := l.ways(wanted), l.ways(wanted.without(entry))
		if with.readable() && !without.readable() {
			needy = append(needy, i)
		}
	}
	return needy
}

// needed returns entries, each with the lines that need it among them.
func (c corpus) needed(keep []int) []api.Needed {
	var all []api.Needed
	for _, entry := range keep {
		all = append(all, api.Needed{Entry: entry, Lines: c.needs(among(keep), entry)})
	}
	return all
}

// reads reports whether a word of an entry is in a reading with all entries.
func (c corpus) reads(entry int) bool {
	return slices.ContainsFunc(c, func(l line) bool {
		return slices.ContainsFunc(l.words, func(w word) bool { return w.entry == entry })
	})
}

// thin leaves out entries from the last one on, as long as the corpus stays
// readable, and returns those that are left.
func (c corpus) thin(entries int) []int {
	left := numbers(entries)
	for entry := entries - 1; entry >= 0; entry-- {
		if c.readable(among(left).without(entry)) {
			left = slices.Delete(left, entry, entry+1) // those before it are all left
		}
	}
	return left
}

// numbers returns the numbers below n.
func numbers(n int) []int {
	all := make([]int, n)
	for i := range all {
		all[i] = i
	}
	return all
}
