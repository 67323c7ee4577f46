package wall

import (
	"slices"

	"ostracon/api"
	"ostracon/signs"
)

// none stands where there is no sign, or no place.
const none = -1

// The layers of a text: as it stands, and as it was before it was usurped.
const (
	standing = iota
	former
)

// check returns the first error of a list, of cells and of lines.
func check(l api.List, cells []api.Cell, lines ...[]int) api.Errno {
	if e := signs.Check(l); e != api.OK {
		return e
	}
	if !valid(len(l.Signs), cells) {
		return api.ErrWall
	}
	return checkLines(len(l.Signs), lines...)
}

// checkLines returns the first error of lines, for a list of n signs.
func checkLines(n int, lines ...[]int) api.Errno {
	for _, line := range lines {
		if len(line) > api.MaxLine {
			return api.ErrMany
		}
		if !allSigns(n, line) {
			return api.ErrSign
		}
	}
	return api.OK
}

// allSigns reports whether all numbers are those of signs, of which there are n.
func allSigns(n int, numbers []int) bool {
	return !slices.ContainsFunc(numbers, func(sign int) bool { return sign < 0 || sign >= n })
}

// valid reports whether cells are valid for n signs.
func valid(n int, cells []api.Cell) bool {
	if len(cells) > api.MaxCells {
		return false
	}
	room := api.MaxLine
	for _, c := range cells {
		if c.Min < 0 || c.Min > c.Max || c.Max > api.MaxGap || n == 0 && c.Max > 0 || !ascends(c.Signs) || !allSigns(n, c.Signs) {
			return false
		}
		room -= c.Max
	}
	return room >= 0
}

func ascends(numbers []int) bool {
	for i := range len(numbers) - 1 {
		if numbers[i] >= numbers[i+1] {
			return false
		}
	}
	return true
}

// checkMark returns the first error of a mark, for a list of n signs.
func checkMark(n int, m api.Mark) api.Errno {
	if m.Sign != none && !allSigns(n, []int{m.Sign}) {
		return api.ErrSign
	}
	if m.State < api.Whole || m.State > api.Usurped {
		return api.ErrArg
	}
	return api.OK
}

// cellOf returns the cell of a mark on a layer of the wall.
func cellOf(m api.Mark, alike [][]int, layer int) api.Cell {
	if m.Sign == none {
		return api.Cell{Min: m.Min, Max: m.Max}
	}
	cell := api.Cell{Min: 1, Max: 1}
	switch {
	case m.State == api.Hatched, m.State == api.Usurped && layer == former:
	case m.State == api.Damaged:
		cell.Signs = likes(m.Sign, alike)
	default:
		cell.Signs = []int{m.Sign}
	}
	return cell
}

// likes returns a sign and those of the families that it is in.
func likes(sign int, alike [][]int) []int {
	all := []int{sign}
	for _, family := range alike {
		if slices.Contains(family, sign) {
			all = append(all, family...)
		}
	}
	slices.Sort(all)
	return slices.Compact(all)
}

func allows(c api.Cell, sign int) bool {
	_, named := slices.BinarySearch(c.Signs, sign)
	return named || len(c.Signs) == 0
}

// meet returns the cell that allows what two cells allow, if there can be one.
func meet(a, b api.Cell) (c api.Cell, ok bool) {
	least, most := max(a.Min, b.Min), min(a.Max, b.Max)
	common := both(a.Signs, b.Signs)
	apart := len(common) == 0 && len(a.Signs) > 0 // then b names signs too, but others
	switch {
	case least > most, apart && least > 0:
		return api.Cell{}, false
	case apart:
		return api.Cell{Signs: slices.Clone(a.Signs)}, true
	}
	return api.Cell{Min: least, Max: most, Signs: common}, true
}

// both returns the signs that two cells allow; no signs are any.
func both(a, b []int) []int {
	if len(a) == 0 {
		return slices.Clone(b)
	}
	return slices.DeleteFunc(slices.Clone(a), func(sign int) bool {
		return len(b) > 0 && !slices.Contains(b, sign)
	})
}
