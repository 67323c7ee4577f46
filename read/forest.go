package read

import (
	"slices"

	"ostracon/api"
)

// impossible stands for the least cost from a place from which the end of the
// line cannot be reached.
const impossible = -1

// forest has all words that the signs of a line spell, and what follows from
// them for each place.
type forest struct {
	words   [][]api.Edge // from each place on, in order
	reached places       // that the beginning of the line can be divided up to
	least   []int        // the least cost of dividing the rest of the line
}

// grow returns the forest of a line.
func grow(h api.House, line []int) (forest, api.Errno) {
	if e := checkLine(h, line); e != api.OK {
		return forest{}, e
	}
	all, e := wordsFrom(h, line, anywhere)
	if e != api.OK {
		return forest{}, e
	}
	f := forest{words: make([][]api.Edge, len(line)+1)}
	for _, word := range all {
		f.words[word.From] = append(f.words[word.From], word)
	}
	f.reached = f.reach()
	f.least = f.leastCosts()
	return f, api.OK
}

func (f forest) reach() places {
	reached := placeSet(0)
	for place, words := range f.words {
		if !reached.has(place) {
			continue
		}
		for _, word := range words {
			reached |= placeSet(word.To)
		}
	}
	return reached
}

func (f forest) leastCosts() []int {
	end := len(f.words) - 1
	least := slices.Repeat([]int{impossible}, end+1)
	least[end] = 0
	for place, words := range slices.Backward(f.words) {
		for _, word := range words {
			if least[word.To] == impossible {
				continue
			}
			if cost := word.Cost + least[word.To]; least[place] == impossible || cost < least[place] {
				least[place] = cost
			}
		}
	}
	return least
}

func (f forest) readable() bool { return f.least[0] != impossible }

// inReadings returns the words that are in a reading.
func (f forest) inReadings() []api.Edge {
	var found []api.Edge
	for place := range f.reached.each() {
		for _, word := range f.words[place] {
			if f.least[word.To] != impossible {
				found = append(found, word)
			}
		}
	}
	return found
}

// certain returns the words that are in every reading: each sign is read with
// some word in each reading, so these are the ones whose signs no other word of
// a reading has.
func (f forest) certain() []api.Edge {
	found := f.inReadings()
	readers := make([]int, len(f.words)) // how many words have a sign
	for _, word := range found {
		for sign := word.From; sign < word.To; sign++ {
			readers[sign]++
		}
	}
	return slices.DeleteFunc(found, func(word api.Edge) bool { return readers[word.From] > 1 })
}

// count returns how many readings there are, at most MaxCount.
func (f forest) count() int {
	counts := make([]int, len(f.words)) // of the ways to divide the rest of the line
	counts[len(f.words)-1] = 1
	for place, words := range slices.Backward(f.words) {
		for _, word := range words {
			counts[place] = min(counts[place]+counts[word.To], api.MaxCount)
		}
	}
	return counts[0]
}

// provedBy reports whether a table proves that no reading costs less than cost.
func (f forest) provedBy(table []int, cost int) bool {
	end := len(f.words) - 1
	if len(table) != end+1 || slices.Min(table) < impossible || table[end] != 0 {
		return false
	}
	for place, words := range f.words {
		for _, word := range words {
			if !agree(table[place], table[word.To], word.Cost) {
				return false
			}
		}
	}
	return table[0] == impossible || table[0] >= cost
}

// agree reports whether the numbers of the places where a word begins and ends
// may stand in one table. They may be of any size, so they are not added up.
func agree(from, to, cost int) bool {
	return to == impossible || from != impossible && from-cost <= to
}
