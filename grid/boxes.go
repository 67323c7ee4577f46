package grid

import "ostracon/api"

// axis is a direction in which boxes are measured, sorted and cut.
type axis struct {
	start, size func(b api.Box) api.Frac
	// order tells which of two boxes begins first.
	order func(b, c api.Box) int
}

func newAxis(start, size func(b api.Box) api.Frac) axis {
	order := func(b, c api.Box) int { return compare(start(b), start(c)) }
	return axis{start, size, order}
}

func sideways() axis {
	return newAxis(
		func(b api.Box) api.Frac { return b.X },
		func(b api.Box) api.Frac { return b.W },
	)
}

func downwards() axis {
	return newAxis(
		func(b api.Box) api.Frac { return b.Y },
		func(b api.Box) api.Frac { return b.H },
	)
}

func (a axis) end(b api.Box) api.Frac {
	return plus(a.start(b), a.size(b))
}

// isPlaced reports whether a box has a place in this direction.
func (a axis) isPlaced(b api.Box) bool {
	if !isValid(a.start(b)) || !isValid(a.size(b)) {
		return false
	}
	return a.size(b).Num > 0 && isValid(a.end(b))
}

// span returns where boxes begin, and how far they reach from there.
func (a axis) span(boxes []api.Box) (start, size api.Frac) {
	start, end := a.start(boxes[0]), a.end(boxes[0])
	for _, b := range boxes {
		if compare(a.start(b), start) < 0 {
			start = a.start(b)
		}
		if compare(a.end(b), end) > 0 {
			end = a.end(b)
		}
	}
	return start, minus(end, start)
}

func (a axis) contains(b api.Box, at api.Frac) bool {
	return compare(a.start(b), at) <= 0 && compare(at, a.end(b)) < 0
}

func (a axis) overlap(b, c api.Box) bool {
	return compare(a.start(b), a.end(c)) < 0 && compare(a.start(c), a.end(b)) < 0
}

// checkBoxes returns the first error of boxes that need not be those of a text.
func checkBoxes(boxes []api.Box) api.Errno {
	if len(boxes) > api.MaxNodes {
		return api.ErrMany
	}
	x, y := sideways(), downwards()
	for _, b := range boxes {
		if !x.isPlaced(b) || !y.isPlaced(b) {
			return api.ErrBoxes
		}
	}
	return api.OK
}

// mirrored returns a box as it stands if the lines begin at the right. A box
// that is mirrored twice stands where it stood.
func mirrored(b api.Box) api.Box {
	b.X = negative(sideways().end(b))
	return b
}

// haveSameBoxes reports whether two lists have the same boxes, in whatever order.
func haveSameBoxes(boxes, others []api.Box) bool {
	counts := make(map[api.Box]int, len(boxes))
	for _, b := range boxes {
		counts[b]++
	}
	for _, b := range others {
		counts[b]--
		if counts[b] < 0 {
			return false
		}
	}
	return len(boxes) == len(others)
}

// Extent returns the smallest rectangle that contains all boxes.
func Extent(boxes []api.Box) (x, y, wide, high api.Frac, e api.Errno) {
	var none api.Frac
	if e := checkBoxes(boxes); e != api.OK {
		return none, none, none, none, e
	}
	if len(boxes) == 0 {
		return none, none, none, none, api.ErrNone
	}
	x, wide = sideways().span(boxes)
	y, high = downwards().span(boxes)
	if !isValid(wide) || !isValid(high) {
		return none, none, none, none, api.ErrBoxes
	}
	return x, y, wide, high, api.OK
}

// Hit returns the boxes that contain a point.
func Hit(boxes []api.Box, x, y api.Frac) ([]int, api.Errno) {
	if e := checkBoxes(boxes); e != api.OK {
		return nil, e
	}
	if !isValid(x) || !isValid(y) {
		return nil, api.ErrArg
	}
	var hit []int
	across, down := sideways(), downwards()
	for i, b := range boxes {
		if across.contains(b, x) && down.contains(b, y) {
			hit = append(hit, i)
		}
	}
	return hit, api.OK
}

// Crossing returns the pairs of boxes that cross.
func Crossing(boxes []api.Box) ([]api.Pair, api.Errno) {
	if e := checkBoxes(boxes); e != api.OK {
		return nil, e
	}
	var pairs []api.Pair
	x, y := sideways(), downwards()
	for left, b := range boxes {
		for right := left + 1; right < len(boxes); right++ {
			if c := boxes[right]; x.overlap(b, c) && y.overlap(b, c) {
				pairs = append(pairs, api.Pair{Left: left, Right: right})
			}
		}
	}
	return pairs, api.OK
}
