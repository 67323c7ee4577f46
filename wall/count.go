package wall

import (
	"slices"

	"ostracon/api"
)

// counter counts lines, but not beyond MaxCount.
type counter struct {
	strip
	groups [][]int        // of signs that no slot tells apart
	counts map[string]int // of the lines that lead on from some positions
}

func newCounter(signs int, cells []api.Cell) counter {
	s := newStrip(signs, cells)
	return counter{s, s.twins(), map[string]int{"": 0}}
}

// countLines returns how many different lines agree with cells. From one end of
// the wall there can be far more sets of positions than from the other one, so
// both are tried in turn, with ever more sets.
func countLines(signs int, cells []api.Cell) int {
	back := slices.Clone(cells)
	slices.Reverse(back)
	ends := []counter{newCounter(signs, cells), newCounter(signs, back)}
	for most := 1; ; most *= 2 {
		for _, c := range ends {
			if n, ok := c.count(c.start(), most); ok {
				return n
			}
		}
	}
}

// count returns how many different lines lead on from some positions, unless it
// comes to more than most sets.
func (c counter) count(set string, most int) (n int, ok bool) {
	if n, ok := c.counts[set]; ok {
		return n, true
	}
	if len(c.counts) > most {
		return 0, false
	}
	if c.mayEnd(set) {
		n = 1
	}
	for _, signs := range c.groups {
		more, ok := c.count(c.step(set, signs[0]), most)
		if !ok {
			return 0, false
		}
		n = min(n+len(signs)*more, api.MaxCount)
		if n == api.MaxCount {
			break // there can be far more sets than those that lead to so many lines
		}
	}
	c.counts[set] = n
	return n, true
}
