package copies

import (
	"iter"
	"slices"

	"ostracon/api"
)

// CheckBlocks returns an error unless blocks are valid.
func CheckBlocks(blocks []api.Block) api.Errno {
	if len(blocks) > api.MaxBlocks {
		return api.ErrMany
	}
	for _, b := range blocks {
		if len(b.Rows) != len(blocks[0].Rows) || len(b.Rows) > api.MaxRows || !validEdge(b.Left) || !validEdge(b.Right) || checkLines(b.Rows...) != api.OK {
			return api.ErrBlock
		}
	}
	return api.OK
}

func validEdge(edge []int) bool {
	return len(edge) <= api.MaxRows && !slices.ContainsFunc(edge, func(n int) bool { return n < 0 || n > api.MaxCost })
}

// Fit reports whether the edges of two blocks fit.
func Fit(blocks []api.Block, left, right int) (bool, api.Errno) {
	if e := CheckBlocks(blocks); e != api.OK {
		return false, e
	}
	if !distinct(len(blocks), left, right) {
		return false, api.ErrArg
	}
	return fit(blocks[left].Right, blocks[right].Left), api.OK
}

// fit reports whether the right edge of a block and the left one of another fit.
func fit(right, left []int) bool {
	if len(right) == 0 || len(right) != len(left) {
		return false
	}
	for i := range right {
		if right[i]+left[i] != right[0]+left[0] {
			return false
		}
	}
	return true
}

// distinct reports whether all numbers are those of different blocks, of which
// there are n.
func distinct(n int, numbers ...int) bool {
	for i, b := range numbers {
		if b < 0 || b >= n || slices.Contains(numbers[:i], b) {
			return false
		}
	}
	return true
}

// Join returns the first rows of blocks.
func Join(blocks []api.Block, most int) ([][]int, api.Errno) {
	if e := CheckBlocks(blocks); e != api.OK {
		return nil, e
	}
	if most < 1 || most > api.MaxList {
		return nil, api.ErrArg
	}
	var first [][]int
	for row := range rows(blocks) {
		first = append(first, slices.Clone(row))
		if len(first) == most {
			break
		}
	}
	if len(first) == 0 {
		return nil, api.ErrJoin
	}
	return first, api.OK
}

// Count returns how many rows of blocks there are.
func Count(blocks []api.Block) (int, api.Errno) {
	if e := CheckBlocks(blocks); e != api.OK {
		return 0, e
	}
	n := 0
	for range rows(blocks) {
		n++
	}
	return n, api.OK
}

// rows yields the rows of blocks, in order, each where the one before it stood.
func rows(blocks []api.Block) iter.Seq[[]int] {
	return func(yield func([]int) bool) {
		var row []int
		var extend func() bool
		extend = func() bool { // whether more rows are wanted
			at := len(row)
			if at == len(blocks) {
				return yield(row)
			}
			for next := range blocks {
				if slices.Contains(row, next) || at > 0 && !fit(blocks[row[at-1]].Right, blocks[next].Left) {
					continue
				}
				row = append(row, next)
				if !extend() {
					return false
				}
				row = row[:at]
			}
			return true
		}
		extend()
	}
}

// Lines returns the lines of a row of blocks.
func Lines(blocks []api.Block, row []int) ([][]int, api.Errno) {
	if e := CheckBlocks(blocks); e != api.OK {
		return nil, e
	}
	if !distinct(len(blocks), row...) {
		return nil, api.ErrArg
	}
	for i := 1; i < len(row); i++ {
		if !fit(blocks[row[i-1]].Right, blocks[row[i]].Left) {
			return nil, api.ErrJoin
		}
	}
	if len(blocks) == 0 {
		return nil, api.OK
	}
	lines := make([][]int, len(blocks[0].Rows))
	for _, b := range row {
		for i, signs := range blocks[b].Rows {
			lines[i] = append(lines[i], signs...)
		}
	}
	if slices.ContainsFunc(lines, func(line []int) bool { return len(line) > api.MaxLine }) {
		return nil, api.ErrMany
	}
	return lines, api.OK
}
