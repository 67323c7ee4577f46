package wall

import (
	"slices"

	"ostracon/api"
)

// divide returns the cell of each sign of a line that agrees with cells. Each
// stretch is as long as those before it and the rest of the line let it be.
func divide(cells []api.Cell, line []int) (division []int, ok bool) {
	fits := newTable[bool](len(cells)+1, len(line)+1) // whether the line from a place on agrees with the cells from one on
	fits[len(cells)][len(line)] = true
	longest := func(cell, from int) (signs int, ok bool) {
		c := cells[cell]
		for n := 0; n <= c.Max; n++ {
			if n >= c.Min && fits[cell+1][from+n] {
				signs, ok = n, true
			}
			if from+n == len(line) || !allows(c, line[from+n]) {
				break
			}
		}
		return signs, ok
	}
	for cell := len(cells) - 1; cell >= 0; cell-- {
		for from := range fits[cell] {
			_, fits[cell][from] = longest(cell, from)
		}
	}
	if !fits[0][0] {
		return nil, false
	}
	for cell := range cells {
		n, _ := longest(cell, len(division))
		division = append(division, slices.Repeat([]int{cell}, n)...)
	}
	return division, true
}

func newTable[T any](rows, columns int) [][]T {
	table := make([][]T, rows)
	for i := range table {
		table[i] = make([]T, columns)
	}
	return table
}

// alignment aligns a line with a parallel.
type alignment struct {
	line, parallel []int
	rest           [][]int // the changes from the parallel from a place on (the second index) to the line from one on (the first)
}

func align(line, parallel []int) alignment {
	a := alignment{line, parallel, newTable[int](len(line)+1, len(parallel)+1)}
	for i := len(line); i >= 0; i-- {
		for j := len(parallel); j >= 0; j-- {
			a.rest[i][j] = a.restAt(i, j)
		}
	}
	return a
}

// restAt returns the changes between the rests, from those between shorter ones.
func (a alignment) restAt(i, j int) int {
	left, lacking := len(a.line)-i, len(a.parallel)-j
	if left == 0 || lacking == 0 {
		return left + lacking
	}
	return min(1+a.rest[i+1][j], 1+a.rest[i][j+1], difference(a.line[i], a.parallel[j])+a.rest[i+1][j+1])
}

// difference returns how many changes make one sign another one.
func difference(a, b int) int {
	if a == b {
		return 0
	}
	return 1
}

func (a alignment) changes() int { return a.rest[0][0] }

// pairs returns the pairs of the alignment with the least changes that pairs the
// first place of the line, and with the lowest place, if one does, and so on.
func (a alignment) pairs() []api.Pair {
	var pairs []api.Pair
	from := 0
	for i := range a.line {
		if j, ok := a.partner(i, from); ok {
			pairs = append(pairs, api.Pair{Left: i, Right: j})
			from = j + 1
		}
	}
	return pairs
}

// partner returns the lowest place of the parallel, not below one, that can be
// paired with a place of the line.
func (a alignment) partner(i, from int) (place int, ok bool) {
	for j := from; j < len(a.parallel); j++ {
		if j-from+difference(a.line[i], a.parallel[j])+a.rest[i+1][j+1] == a.rest[i][from] {
			return j, true
		}
	}
	return 0, false
}

// source returns the place of the parallel from which each sign of the line is taken.
func (a alignment) source() []int {
	places := slices.Repeat([]int{none}, len(a.line))
	for _, p := range a.pairs() {
		if a.line[p.Left] == a.parallel[p.Right] {
			places[p.Left] = p.Right
		}
	}
	return places
}
