package spell

import (
	"slices"

	"ostracon/api"
)

// impossible stands for the least cost from a place from which the end of a line
// cannot be reached.
const impossible = -1

// firstReading returns the first reading that consists of some words; these are
// in ascending order of From, and those with the same From in the order of words.
func firstReading(words []api.Edge, end int) (api.Reading, api.Errno) {
	least := slices.Repeat([]int{impossible}, end+1) // the cost from each place on
	least[end] = 0
	chosen := make([]api.Edge, end)
	for _, word := range slices.Backward(words) {
		if least[word.To] == impossible {
			continue
		}
		cost := word.Cost + least[word.To]
		// Of several words at the same cost the first one is met last.
		if least[word.From] == impossible || cost <= least[word.From] {
			least[word.From], chosen[word.From] = cost, word
		}
	}
	if least[0] == impossible {
		return api.Reading{}, api.ErrReading
	}
	r := api.Reading{Cost: least[0]}
	for at := 0; at < end; at = chosen[at].To {
		r.Words = append(r.Words, chosen[at].Word)
	}
	return r, api.OK
}
