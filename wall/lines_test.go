package wall_test

import (
	"slices"
	"testing"

	"ostracon/api"
	"ostracon/wall"
)

// P8.2
func TestAgrees(t *testing.T) {
	l := list(3)
	for _, x := range []struct {
		cells []api.Cell
		line  []int
		want  []int
	}{
		{left(), []int{0, 2}, []int{0, 2}},
		{left(), []int{0, 2, 2}, []int{0, 1, 2}},
		{left(), []int{0, 1, 2, 2}, []int{0, 1, 1, 2}},
		{right(), []int{2, 1, 1, 1, 1}, []int{0, 1, 1, 1, 2}},
		{right(), []int{2, 1, 1}, []int{0, 1, 2}},
		{nil, nil, nil},
		{[]api.Cell{cell(0, 0, 1), cell(0, 3)}, nil, nil},
		{[]api.Cell{cell(0, 2, 0), cell(0, 2)}, []int{0, 0, 0}, []int{0, 0, 1}},
		{[]api.Cell{cell(0, 2), cell(0, 2)}, []int{1, 1, 1}, []int{0, 0, 1}},
		{[]api.Cell{cell(0, 2), cell(2, 2)}, []int{1, 1, 1}, []int{0, 1, 1}},
		{[]api.Cell{cell(0, 9), cell(0, 9), one(1)}, []int{1, 0, 1}, []int{0, 0, 2}},
		// The first stretch comes first, even if those behind it are shorter for it.
		{[]api.Cell{cell(0, 1), cell(0, 3, 0), cell(0, 3)}, []int{0, 0, 1, 0}, []int{0, 1, 2, 2}},
		{[]api.Cell{cell(0, 2), cell(0, 3, 0, 1), cell(0, 3)}, []int{0, 1, 2, 0}, []int{0, 0, 2, 2}},
		// It is shorter than it could be, because the rest would not agree.
		{[]api.Cell{cell(0, 3), cell(1, 2, 1), one(2)}, []int{0, 1, 1, 2}, []int{0, 0, 1, 2}},
		{[]api.Cell{cell(0, 3), one(0), one(1), cell(0, 3)}, []int{0, 1, 0, 1}, []int{0, 0, 1, 2}},
		{[]api.Cell{cell(0, 3), one(0), one(1), cell(0, 3)}, []int{0, 1, 2, 1}, []int{1, 2, 3, 3}},
	} {
		got, e := wall.Agrees(l, x.cells, x.line)
		expectNumbers(t, "Agrees", got, e, x.want...)
	}
	for _, x := range []struct {
		cells []api.Cell
		line  []int
	}{
		{left(), []int{1, 2}},
		{left(), []int{0}},
		{left(), nil},
		{left(), []int{0, 2, 1}},
		{left(), []int{0, 1, 1, 1, 2}},
		{right(), []int{2, 1, 1, 1, 1, 1}},
		{right(), []int{2, 1}},
		{nil, []int{0}},
		{[]api.Cell{cell(0, 0)}, []int{0}},
	} {
		got, e := wall.Agrees(l, x.cells, x.line)
		expectError(t, "Agrees of what does not", got, e, api.ErrRestore)
	}
}

// P8.2: the errors of Agrees, in order.
func TestErrorsOfAgrees(t *testing.T) {
	l, bad := list(3), []api.Cell{cell(0, 10)}
	for _, x := range []struct {
		what  string
		l     api.List
		cells []api.Cell
		line  []int
		want  api.Errno
	}{
		{"a list that is not valid", broken(), bad, make([]int, 61), api.ErrPeriod},
		{"cells that are not valid", l, bad, make([]int, 61), api.ErrWall},
		{"61 signs", l, left(), slices.Repeat([]int{3}, 61), api.ErrMany},
		{"60 signs", l, left(), make([]int, 60), api.ErrRestore},
		{"no sign of the list", l, left(), []int{1, 3}, api.ErrSign},
		{"a negative sign", l, left(), []int{-1}, api.ErrSign},
		{"a sign of an empty list", list(0), nil, []int{0}, api.ErrSign},
	} {
		got, e := wall.Agrees(x.l, x.cells, x.line)
		expectError(t, "Agrees with "+x.what, got, e, x.want)
	}
}

// P8.2: Agrees finds the division that counts of all divisions.
func TestAgreesAsTold(t *testing.T) {
	d := dice(1)
	agreed, failed := 0, 0
	for range 4000 {
		n := 1 + d.below(3)
		cells := d.cells(n, 5, 3)
		line := d.line(n, 7)
		if d.below(2) == 0 {
			line = d.spoil(n, d.fill(n, cells), 1)
		}
		all := divisions(cells, line)
		got, e := wall.Agrees(list(n), cells, line)
		if len(all) == 0 {
			failed++
			expectError(t, "Agrees", got, e, api.ErrRestore)
			continue
		}
		agreed++
		if want := longest(all); e != api.OK || !slices.Equal(got, want) {
			t.Fatalf("Agrees of %v and %v = %v, %d, want %v", cells, line, got, e, want)
		}
	}
	if agreed < 1000 || failed < 1000 {
		t.Errorf("%d lines agree, %d do not", agreed, failed)
	}
}

func expectChanges(t *testing.T, l api.List, a, b []int, want int, pairs ...api.Pair) {
	t.Helper()
	n, got, e := wall.Changes(l, a, b)
	if n != want || !slices.Equal(got, pairs) || e != api.OK {
		t.Errorf("Changes of %v and %v = %d, %v, %d, want %d, %v", a, b, n, got, e, want, pairs)
	}
}

// P8.2
func TestChanges(t *testing.T) {
	l := list(4)
	expectChanges(t, l, []int{0, 1, 2}, []int{0, 2}, 1, api.Pair{Left: 0, Right: 0}, api.Pair{Left: 1, Right: 2})
	expectChanges(t, l, []int{0, 2}, []int{0, 1, 2}, 1, api.Pair{Left: 0, Right: 0}, api.Pair{Left: 2, Right: 1})
	expectChanges(t, l, []int{1, 1}, []int{0, 1, 2}, 2, api.Pair{Left: 0, Right: 0}, api.Pair{Left: 1, Right: 1})
	expectChanges(t, l, []int{1, 1}, []int{0, 1, 1, 2}, 2, api.Pair{Left: 1, Right: 0}, api.Pair{Left: 2, Right: 1})
	expectChanges(t, l, []int{0, 0}, []int{0}, 1, api.Pair{Left: 0, Right: 0})
	expectChanges(t, l, []int{0}, []int{0, 0}, 1, api.Pair{Left: 0, Right: 0})
	expectChanges(t, l, []int{0, 1}, []int{1, 0}, 2, api.Pair{Left: 0, Right: 0}, api.Pair{Left: 1, Right: 1})
	expectChanges(t, l, []int{0, 1, 2}, []int{1, 2, 3}, 2, api.Pair{Left: 0, Right: 1}, api.Pair{Left: 1, Right: 2})
	expectChanges(t, l, []int{3}, []int{0}, 1, api.Pair{Left: 0, Right: 0})
	expectChanges(t, l, []int{1, 2, 3}, []int{0}, 3, api.Pair{Left: 0, Right: 0})
	expectChanges(t, l, nil, []int{0, 1}, 2)
	expectChanges(t, l, []int{0, 1}, nil, 2)
	expectChanges(t, l, nil, nil, 0)
	expectChanges(t, list(0), nil, nil, 0)
	n, pairs, e := wall.Changes(l, make([]int, 60), slices.Repeat([]int{1}, 60))
	if n != 60 || len(pairs) != 60 || e != api.OK {
		t.Errorf("Changes of long lines = %d, %v, %d", n, pairs, e)
	}
}

// P8.2: the errors of Changes, in order.
func TestErrorsOfChanges(t *testing.T) {
	l := list(3)
	long, odd := make([]int, 61), []int{0, 3}
	for _, x := range []struct {
		what string
		l    api.List
		a, b []int
		want api.Errno
	}{
		{"a list that is not valid", broken(), long, odd, api.ErrPeriod},
		{"61 signs", l, long, odd, api.ErrMany},
		{"no sign of the list", l, odd, long, api.ErrSign},
		{"another line of 61 signs", l, nil, long, api.ErrMany},
		{"another line with no sign of the list", l, nil, odd, api.ErrSign},
		{"a negative sign", l, []int{-1}, nil, api.ErrSign},
		{"61 signs that are none", l, slices.Repeat(odd, 31)[:61], nil, api.ErrMany},
	} {
		n, pairs, e := wall.Changes(x.l, x.a, x.b)
		expectError(t, "Changes with "+x.what, n, e, x.want)
		expectError(t, "Changes with "+x.what, pairs, e, x.want)
	}
}

// P8.2: Changes finds the alignment that counts of all alignments.
func TestChangesAsTold(t *testing.T) {
	d := dice(2)
	for range 4000 {
		n := 1 + d.below(4)
		a, b := d.line(n, 5), d.line(n, 5)
		partner, want := best(b, a)
		var pairs []api.Pair
		for i, place := range partner {
			if place != far {
				pairs = append(pairs, api.Pair{Left: i, Right: place})
			}
		}
		expectChanges(t, list(n), a, b, want, pairs...)
	}
}

// near returns all lines that one change makes of a line.
func near(n int, line []int) [][]int {
	var all [][]int
	for at := range len(line) + 1 {
		for sign := range n {
			all = append(all, slices.Insert(slices.Clone(line), at, sign))
			if at < len(line) {
				all = append(all, slices.Replace(slices.Clone(line), at, at+1, sign))
			}
		}
		if at < len(line) {
			all = append(all, slices.Delete(slices.Clone(line), at, at+1))
		}
	}
	return all
}

// P8.2: the changes are the least number of steps from line to line.
func TestChangesStepByStep(t *testing.T) {
	const n, most = 3, 4
	key := func(line []int) [most + 1]int { // the signs count from 1, so that lines of all lengths differ
		var k [most + 1]int
		for i, sign := range line {
			k[i] = sign + 1
		}
		return k
	}
	for _, from := range [][]int{nil, {0}, {0, 1}, {1, 1, 0}, {0, 1, 2, 0}, {2, 2, 2, 2}} {
		steps := map[[most + 1]int]int{key(from): 0}
		waiting := [][]int{from}
		for len(waiting) > 0 {
			line := waiting[0]
			waiting = waiting[1:]
			for _, next := range near(n, line) {
				if _, seen := steps[key(next[:min(len(next), most+1)])]; !seen && len(next) <= most {
					steps[key(next)] = steps[key(line)] + 1
					waiting = append(waiting, next)
				}
			}
			if got := changes(t, list(n), from, line); got != steps[key(line)] {
				t.Errorf("Changes of %v and %v = %d, but it takes %d steps", from, line, got, steps[key(line)])
			}
		}
		if len(steps) != 1+3+9+27+81 {
			t.Fatalf("%d lines are reached", len(steps))
		}
	}
}

func expectCount(t *testing.T, what string, n int, cells []api.Cell, want int) {
	t.Helper()
	if got, e := wall.Count(list(n), cells); got != want || e != api.OK {
		t.Errorf("Count of %s = %d, %d, want %d", what, got, e, want)
	}
}

// P8.2
func TestCount(t *testing.T) {
	gap := cell(0, 9)
	expectCount(t, "the example", 3, left(), 13)
	expectCount(t, "no cells", 3, nil, 1)
	expectCount(t, "no cells and no signs", 0, nil, 1)
	expectCount(t, "no room", 3, make([]api.Cell, 40), 1)
	expectCount(t, "no room and no signs", 0, make([]api.Cell, 40), 1)
	expectCount(t, "two gaps", 3, []api.Cell{cell(0, 1), cell(0, 1)}, 13)
	expectCount(t, "gaps of one sign", 1, slices.Repeat([]api.Cell{gap}, 6), 55)
	expectCount(t, "a cell of many signs", 200, []api.Cell{cell(3, 3)}, 8000000)
	expectCount(t, "all signs named", 3, []api.Cell{cell(1, 2, 0, 1, 2)}, 12)
	// Less than MaxCount, and MaxCount.
	expectCount(t, "39 places of two signs", 2, slices.Repeat([]api.Cell{one()}, 39), 1<<39)
	expectCount(t, "40 places of two signs", 2, slices.Repeat([]api.Cell{one()}, 40), api.MaxCount)
	expectCount(t, "39 places that may be empty", 2, append(slices.Repeat([]api.Cell{gap}, 4), cell(0, 3)), 1<<40-1)
	expectCount(t, "40 places that may be empty", 2, append(slices.Repeat([]api.Cell{gap}, 4), cell(0, 4)), api.MaxCount)
	expectCount(t, "60 places", 200, slices.Repeat([]api.Cell{cell(6, 6)}, 10), api.MaxCount)
	expectCount(t, "some lines more than MaxCount", 2, append(slices.Repeat([]api.Cell{cell(9, 9)}, 4), cell(3, 3), cell(0, 2, 0)), api.MaxCount)
	expectCount(t, "some lines less than MaxCount", 2, append(slices.Repeat([]api.Cell{cell(9, 9)}, 4), cell(2, 2), cell(0, 2, 0)), 3<<38)
}

// wide returns cells of one place each.
func wide(places, least int, signs ...int) []api.Cell {
	return slices.Repeat([]api.Cell{cell(least, 1, signs...)}, places)
}

// P8.2: a sign between gaps, which can be in many places of a line.
func TestCountOfManySets(t *testing.T) {
	long := func(most int) []api.Cell { return slices.Repeat([]api.Cell{cell(0, 5)}, most/5) }
	for _, x := range []struct {
		n     int
		cells []api.Cell
		want  int
	}{
		// Of k + 1 to 2k + 1 signs just the one before the last k is known.
		{2, slices.Concat(wide(7, 0), wide(1, 1, 0), wide(7, 1)), 1 << 7 * (1<<8 - 1)},
		{2, slices.Concat(wide(14, 0), wide(1, 1, 0), wide(14, 1)), 1 << 14 * (1<<15 - 1)},
		{2, slices.Concat(long(20), wide(1, 1, 0), wide(19, 1), []api.Cell{cell(9, 9, 0), cell(9, 9, 1), cell(2, 2, 0)}), 1 << 19 * (1<<21 - 1)},
		{2, slices.Concat(long(30), wide(1, 1, 0), wide(29, 1)), api.MaxCount},
		{200, slices.Concat(long(30), wide(1, 1, 0), wide(29, 1)), api.MaxCount},
	} {
		expectCount(t, "a sign between gaps", x.n, x.cells, x.want)
		slices.Reverse(x.cells)
		expectCount(t, "a sign between gaps from the other end", x.n, x.cells, x.want)
	}
}

// P8.2: Count counts all different lines.
func TestCountAsTold(t *testing.T) {
	d := dice(3)
	for range 3000 {
		n := 1 + d.below(4)
		cells := d.cells(n, 5, 2)
		if got, e := wall.Count(list(n), cells); e != api.OK || got != len(linesOf(n, cells)) {
			t.Fatalf("Count with %d signs of %v = %d, %d, want %d", n, cells, got, e, len(linesOf(n, cells)))
		}
	}
}

// P8.2: the errors of Count.
func TestErrorsOfCount(t *testing.T) {
	n, e := wall.Count(broken(), []api.Cell{cell(0, 10)})
	expectError(t, "Count with a list that is not valid", n, e, api.ErrPeriod)
	n, e = wall.Count(list(3), []api.Cell{one(3)})
	expectError(t, "Count with cells that are not valid", n, e, api.ErrWall)
}
