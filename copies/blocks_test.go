package copies_test

import (
	"math"
	"slices"
	"testing"

	"ostracon/api"
	"ostracon/copies"
)

// spoiled are blocks that are not valid, and the error.
func spoiled() []struct {
	what   string
	blocks []api.Block
	want   api.Errno
} {
	// with returns the blocks of the example, of which the last one is changed.
	with := func(change func(b *api.Block)) []api.Block {
		blocks := stones()
		change(&blocks[2])
		return blocks
	}
	return []struct {
		what   string
		blocks []api.Block
		want   api.Errno
	}{
		{"nine blocks", equals(9, 1), api.ErrMany},
		{"nine blocks that are not valid", slices.Repeat([]api.Block{{Left: []int{-1}}}, 9), api.ErrMany},
		{"fewer rows", with(func(b *api.Block) { b.Rows = b.Rows[:1] }), api.ErrBlock},
		{"more rows", with(func(b *api.Block) { b.Rows = append(b.Rows, nil) }), api.ErrBlock},
		{"no rows", with(func(b *api.Block) { b.Rows = nil }), api.ErrBlock},
		{"13 rows", equals(2, 13), api.ErrBlock},
		{"one block with 13 rows", equals(1, 13), api.ErrBlock},
		{"a left edge of 13", with(func(b *api.Block) { b.Left = make([]int, 13) }), api.ErrBlock},
		{"a right edge of 13", with(func(b *api.Block) { b.Right = make([]int, 13) }), api.ErrBlock},
		{"a negative left edge", with(func(b *api.Block) { b.Left = []int{0, -1} }), api.ErrBlock},
		{"a negative right edge", with(func(b *api.Block) { b.Right = []int{0, math.MinInt} }), api.ErrBlock},
		{"a left edge of 1001", with(func(b *api.Block) { b.Left = []int{0, 1001} }), api.ErrBlock},
		{"a right edge of 1001", with(func(b *api.Block) { b.Right = []int{1001} }), api.ErrBlock},
		{"a row of 61 signs", with(func(b *api.Block) { b.Rows[1] = numbers(61, 0) }), api.ErrBlock},
		{"a row with no sign", with(func(b *api.Block) { b.Rows[1] = odd() }), api.ErrBlock},
	}
}

// P9.4
func TestCheckBlocks(t *testing.T) {
	great := api.Block{Left: numbers(12, 1000), Right: numbers(12, 0), Rows: slices.Repeat([][]int{numbers(60, math.MaxInt)}, 12)}
	for _, x := range []struct {
		what   string
		blocks []api.Block
	}{
		{"no blocks", nil},
		{"the example", stones()},
		{"eight blocks", equals(8, 1)},
		{"eight great blocks", slices.Repeat([]api.Block{great}, 8)},
		{"blocks without anything", make([]api.Block, 8)},
		{"a great left edge", []api.Block{{Left: numbers(12, 0), Right: numbers(12, 1000)}}},
	} {
		if e := copies.CheckBlocks(x.blocks); e != api.OK {
			t.Errorf("CheckBlocks of %s = %d", x.what, e)
		}
	}
	for _, x := range spoiled() {
		if e := copies.CheckBlocks(x.blocks); e != x.want {
			t.Errorf("CheckBlocks of %s = %d, want %d", x.what, e, x.want)
		}
	}
}

// P9.4: the error of CheckBlocks comes before those of the other arguments.
func TestErrorsOfBlocks(t *testing.T) {
	for _, x := range spoiled() {
		for _, bad := range []bool{false, true} {
			left, most, row := 0, 5, []int{0}
			if bad {
				left, most, row = -1, 0, []int{-1}
			}
			is, e := copies.Fit(x.blocks, left, 1)
			expectError(t, "Fit of "+x.what, is, e, x.want)
			rows, e := copies.Join(x.blocks, most)
			expectError(t, "Join of "+x.what, rows, e, x.want)
			n, e := copies.Count(x.blocks)
			expectError(t, "Count of "+x.what, n, e, x.want)
			lines, e := copies.Lines(x.blocks, row)
			expectError(t, "Lines of "+x.what, lines, e, x.want)
		}
	}
}

// P9.4
func TestFit(t *testing.T) {
	for _, x := range []struct {
		left, right int
		want        bool
	}{{0, 1, true}, {0, 2, false}, {2, 0, false}, {1, 2, true}, {1, 0, false}, {2, 1, false}} {
		got, e := copies.Fit(stones(), x.left, x.right)
		expect(t, "Fit of the example", got, e, x.want)
	}
	for _, x := range []struct {
		right, left []int
		want        bool
	}{
		{nil, nil, false},
		{[]int{0}, nil, false},
		{nil, []int{0}, false},
		{[]int{0}, []int{0}, true},
		{[]int{7}, []int{1000}, true},
		{[]int{1, 2}, []int{1, 0}, true},
		{[]int{1, 2}, []int{1, 1}, false},
		{[]int{1, 2, 3}, []int{3, 2, 1}, true},
		{[]int{1, 2, 3}, []int{4, 2, 1}, false},
		{[]int{1, 2, 3}, []int{3, 3, 1}, false},
		{[]int{1, 2, 3}, []int{3, 2, 2}, false},
		{[]int{1, 2, 3}, []int{3, 2}, false},
		{[]int{1, 2}, []int{3, 2, 1}, false},
		{numbers(12, 1000), numbers(12, 0), true},
		{numbers(12, 1000), append(numbers(11, 0), 1), false},
	} {
		// The other edges do not matter.
		blocks := []api.Block{{Left: x.left, Right: numbers(5, 1)}, {Left: numbers(4, 1), Right: x.right}}
		got, e := copies.Fit(blocks, 1, 0)
		expect(t, "Fit", got, e, x.want)
		got, e = copies.Fit(blocks, 0, 1)
		expect(t, "Fit of the other edges", got, e, false)
	}
}

// P9.4
func TestErrorsOfFit(t *testing.T) {
	for _, x := range [][2]int{{-1, 0}, {0, -1}, {3, 0}, {0, 3}, {0, 0}, {2, 2}, {math.MinInt, 1}, {1, math.MaxInt}} {
		got, e := copies.Fit(stones(), x[0], x[1])
		expectError(t, "Fit", got, e, api.ErrArg)
	}
	got, e := copies.Fit(nil, 0, 1)
	expectError(t, "Fit of no blocks", got, e, api.ErrArg)
}

// P9.4
func TestJoin(t *testing.T) {
	turned := stones()
	slices.Reverse(turned)
	ring := []api.Block{{Left: []int{1, 2}, Right: []int{1}}, {Left: []int{9}, Right: []int{1, 2, 3}}, {Left: []int{3, 2, 1}, Right: []int{2, 1}}}
	for _, x := range []struct {
		what   string
		blocks []api.Block
		want   [][]int
	}{
		{"the example", stones(), [][]int{{0, 1, 2}}},
		{"the example in another order", turned, [][]int{{2, 1, 0}}},
		{"no blocks", nil, [][]int{nil}},
		{"one block", make([]api.Block, 1), [][]int{{0}}},
		{"blocks that fit both ways", equals(2, 0), [][]int{{0, 1}, {1, 0}}},
		{"three blocks that fit all ways", equals(3, 0), [][]int{{0, 1, 2}, {0, 2, 1}, {1, 0, 2}, {1, 2, 0}, {2, 0, 1}, {2, 1, 0}}},
		{"a ring", ring, [][]int{{0, 1, 2}, {1, 2, 0}, {2, 0, 1}}},
		{"equal blocks", slices.Repeat(equals(1, 1), 2), [][]int{{0, 1}, {1, 0}}},
	} {
		got, e := copies.Join(x.blocks, 64)
		expect(t, "Join of "+x.what, got, e, x.want)
		n, e := copies.Count(x.blocks)
		expect(t, "Count of "+x.what, n, e, len(x.want))
		got, e = copies.Join(x.blocks, 1)
		expect(t, "Join of one row of "+x.what, got, e, x.want[:1])
		got, e = copies.Join(x.blocks, 2)
		expect(t, "Join of two rows of "+x.what, got, e, x.want[:min(2, len(x.want))])
	}
}

// P9.4: the greatest number of rows.
func TestJoinOfEight(t *testing.T) {
	blocks, all := equals(8, 12), orders(8)
	for _, most := range []int{1, 63, 64} {
		got, e := copies.Join(blocks, most)
		expect(t, "Join of eight blocks", got, e, all[:most])
	}
	n, e := copies.Count(blocks)
	expect(t, "Count of eight blocks", n, e, 40320)
}

// P9.4
func TestErrorsOfJoin(t *testing.T) {
	apart := []api.Block{stones()[0], stones()[2]}
	for _, most := range []int{0, -1, 65, math.MinInt, math.MaxInt} {
		for _, blocks := range [][]api.Block{nil, stones(), apart} {
			got, e := copies.Join(blocks, most)
			expectError(t, "Join with a wrong number", got, e, api.ErrArg)
		}
	}
	for _, blocks := range [][]api.Block{apart, make([]api.Block, 2), make([]api.Block, 8), append(stones(), api.Block{Rows: make([][]int, 2)})} {
		got, e := copies.Join(blocks, 5)
		expectError(t, "Join of blocks that do not fit", got, e, api.ErrJoin)
		n, e := copies.Count(blocks)
		expect(t, "Count of blocks that do not fit", n, e, 0)
	}
}

// P9.4 and P9.9: of all orders Join lists the first ones that are rows, and Count
// counts them.
func TestJoinAsTold(t *testing.T) {
	d := dice(7)
	cut, none, some := 0, 0, 0
	for range 1500 {
		blocks := d.blocks(5)
		most := 1 + d.below(6)
		if d.below(4) == 0 {
			most = api.MaxList
		}
		want := rowsOf(blocks)
		n, e := copies.Count(blocks)
		expect(t, "Count", n, e, len(want))
		got, e := copies.Join(blocks, most)
		if len(want) == 0 {
			none++
			expectError(t, "Join", got, e, api.ErrJoin)
			continue
		}
		expect(t, "Join", got, e, want[:min(most, len(want))])
		if some++; len(want) > most {
			cut++
		}
		for left := range blocks {
			for right := range blocks {
				if left != right {
					is, e := copies.Fit(blocks, left, right)
					expect(t, "Fit", is, e, fits(blocks[left], blocks[right]))
				}
			}
		}
	}
	if cut < 50 || none < 100 || some < 100 {
		t.Errorf("%d lists are cut, %d are empty, %d are not", cut, none, some)
	}
}

// P9.4
func TestLines(t *testing.T) {
	for _, x := range []struct {
		what   string
		blocks []api.Block
		row    []int
		want   [][]int
	}{
		{"the example", stones(), []int{0, 1, 2}, [][]int{{1, 2, 3, 4}, {5, 6, 7, 8}}},
		{"two of three blocks", stones(), []int{1, 2}, [][]int{{3, 4}, {6, 7, 8}}},
		{"one block", stones(), []int{1}, [][]int{{3}, {6, 7}}},
		{"an empty row", stones(), nil, [][]int{nil, nil}},
		{"an empty row of 12", equals(8, 12), nil, make([][]int, 12)},
		{"no blocks", nil, nil, nil},
		{"blocks without rows", equals(3, 0), []int{2, 0}, nil},
		{"eight blocks", equals(8, 2), []int{7, 1, 6, 0, 5, 2, 4, 3}, [][]int{{7, 1, 6, 0, 5, 2, 4, 3}, {7, 1, 6, 0, 5, 2, 4, 3}}},
	} {
		got, e := copies.Lines(x.blocks, x.row)
		expect(t, "Lines of "+x.what, got, e, x.want)
	}
}

// P9.4: a line has at most 60 signs.
func TestLinesOfSixtySigns(t *testing.T) {
	blocks := equals(3, 2)
	blocks[0].Rows[1], blocks[1].Rows[1] = numbers(30, 4), numbers(29, 5)
	for _, n := range []int{0, 1} {
		blocks[2].Rows[1] = numbers(n, 6)
		got, e := copies.Lines(blocks, []int{0, 1, 2})
		expect(t, "Lines of 60 signs", got, e, [][]int{{0, 1, 2}, slices.Concat(numbers(30, 4), numbers(29, 5), numbers(n, 6))})
	}
	blocks[2].Rows[1] = numbers(2, 6)
	got, e := copies.Lines(blocks, []int{0, 1, 2})
	expectError(t, "Lines of 61 signs", got, e, api.ErrMany)
	slices.Reverse(blocks[0].Rows)
	slices.Reverse(blocks[1].Rows)
	slices.Reverse(blocks[2].Rows)
	got, e = copies.Lines(blocks, []int{0, 1, 2})
	expectError(t, "Lines of 61 signs in the first line", got, e, api.ErrMany)
	got, e = copies.Lines(blocks, []int{1, 2})
	expect(t, "Lines of fewer blocks", got, e, [][]int{slices.Concat(numbers(29, 5), numbers(2, 6)), {1, 2}})
}

// P9.4
func TestErrorsOfLines(t *testing.T) {
	long := stones()
	for i := range long {
		long[i].Rows[0] = numbers(60, i)
	}
	for _, x := range []struct {
		what   string
		blocks []api.Block
		row    []int
		want   api.Errno
	}{
		{"the example the other way", stones(), []int{1, 0}, api.ErrJoin},
		{"two blocks that do not fit", stones(), []int{0, 2}, api.ErrJoin},
		{"the last two of three", stones(), []int{1, 2, 0}, api.ErrJoin},
		{"long lines that do not fit", long, []int{0, 2}, api.ErrJoin},
		{"long lines", long, []int{1, 2}, api.ErrMany},
		{"a block twice", stones(), []int{1, 1}, api.ErrArg},
		{"a block twice, with another one between", equals(3, 1), []int{0, 1, 0}, api.ErrArg},
		{"a negative number", stones(), []int{0, -1}, api.ErrArg},
		{"a number too great", stones(), []int{3}, api.ErrArg},
		{"the greatest number", stones(), []int{0, 1, math.MaxInt}, api.ErrArg},
		{"a wrong number behind blocks that do not fit", stones(), []int{1, 0, 3}, api.ErrArg},
		{"a long row", stones(), make([]int, 100000), api.ErrArg},
		{"a block of none", nil, []int{0}, api.ErrArg},
	} {
		got, e := copies.Lines(x.blocks, x.row)
		expectError(t, "Lines of "+x.what, got, e, x.want)
	}
}

// P9.4: Lines of all rows of some of the blocks.
func TestLinesAsTold(t *testing.T) {
	d := dice(8)
	made := 0
	for range 1500 {
		blocks := d.blocks(5)
		order := orders(len(blocks))
		row := order[d.below(len(order))]
		row = row[:d.below(len(row)+1)]
		got, e := copies.Lines(blocks, row)
		if !isRow(blocks, row) {
			expectError(t, "Lines", got, e, api.ErrJoin)
			continue
		}
		var want [][]int
		for i := range blocks[:min(1, len(blocks))] {
			for r := range blocks[i].Rows {
				var line []int
				for _, b := range row {
					line = append(line, blocks[b].Rows[r]...)
				}
				want = append(want, line)
			}
		}
		expect(t, "Lines", got, e, want)
		if made++; len(row) > 1 {
			made++
		}
	}
	if made < 1000 {
		t.Errorf("only %d rows are made", made)
	}
}
