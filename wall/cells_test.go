package wall_test

import (
	"math"
	"slices"
	"testing"

	"ostracon/api"
	"ostracon/groups"
	"ostracon/signs"
	"ostracon/wall"
)

// P8.1
func TestCheck(t *testing.T) {
	for _, x := range []struct {
		what  string
		n     int
		cells []api.Cell
		want  api.Errno
	}{
		{"the example", 3, left(), api.OK},
		{"no cells", 3, nil, api.OK},
		{"all signs", 3, []api.Cell{cell(0, 9, 0, 1, 2)}, api.OK},
		{"nine signs", 3, []api.Cell{cell(9, 9)}, api.OK},
		{"no room", 3, []api.Cell{cell(0, 0, 1)}, api.OK},
		{"40 cells", 3, make([]api.Cell, 40), api.OK},
		{"41 cells", 3, make([]api.Cell, 41), api.ErrWall},
		{"60 signs", 3, append(slices.Repeat([]api.Cell{cell(0, 9)}, 6), cell(6, 6)), api.OK},
		{"61 signs", 3, append(slices.Repeat([]api.Cell{cell(0, 9)}, 6), cell(0, 7)), api.ErrWall},
		{"a negative Min", 3, []api.Cell{cell(-1, 1)}, api.ErrWall},
		{"a negative Max", 3, []api.Cell{cell(-2, -1)}, api.ErrWall},
		{"a Min greater than Max", 3, []api.Cell{one(), cell(2, 1)}, api.ErrWall},
		{"ten signs", 3, []api.Cell{cell(0, 10)}, api.ErrWall},
		{"very many signs", 3, []api.Cell{cell(0, math.MaxInt), cell(0, math.MaxInt)}, api.ErrWall},
		{"a sign that the list has not", 3, []api.Cell{cell(0, 1, 3)}, api.ErrWall},
		{"a negative sign", 3, []api.Cell{cell(0, 1, -1)}, api.ErrWall},
		{"a sign twice", 3, []api.Cell{cell(0, 1, 1, 1)}, api.ErrWall},
		{"signs in disorder", 3, []api.Cell{cell(0, 1, 0, 2, 1)}, api.ErrWall},
		{"a sign of no room that the list has not", 3, []api.Cell{cell(0, 0, 3)}, api.ErrWall},
		{"an error behind a cell", 3, []api.Cell{one(0), one(0), one(2, 1)}, api.ErrWall},
		{"room without signs", 0, []api.Cell{cell(0, 1)}, api.ErrWall},
		{"no room without signs", 0, make([]api.Cell, 40), api.OK},
		{"a sign of an empty list", 0, []api.Cell{cell(0, 0, 0)}, api.ErrWall},
	} {
		if e := wall.Check(list(x.n), x.cells); e != x.want {
			t.Errorf("Check of %s = %d, want %d", x.what, e, x.want)
		}
	}
	if e := wall.Check(broken(), make([]api.Cell, 41)); e != api.ErrPeriod {
		t.Errorf("Check with a list that is not valid = %d", e)
	}
}

// P8.1
func TestOf(t *testing.T) {
	l := list(5)
	families := [][]int{{4, 1, 0}, {2, 1, 2}, {3}, {}}
	for _, x := range []struct {
		mark         api.Mark
		stands, once api.Cell
	}{
		{api.Mark{Sign: 1}, one(1), one(1)},
		{api.Mark{Sign: 1, State: api.Damaged}, one(0, 1, 2, 4), one(0, 1, 2, 4)},
		{api.Mark{Sign: 2, State: api.Damaged}, one(1, 2), one(1, 2)},
		{api.Mark{Sign: 3, State: api.Damaged}, one(3), one(3)},
		{api.Mark{Sign: 4, State: api.Damaged}, one(0, 1, 4), one(0, 1, 4)},
		{api.Mark{Sign: 1, State: api.Hatched}, one(), one()},
		{api.Mark{Sign: 1, State: api.Usurped}, one(1), one()},
		{api.Mark{Sign: -1, Max: 1}, cell(0, 1), cell(0, 1)},
		{api.Mark{Sign: -1, Min: 9, Max: 9}, cell(9, 9), cell(9, 9)},
		{api.Mark{Sign: -1}, cell(0, 0), cell(0, 0)},
		{api.Mark{Sign: -1, State: api.Usurped, Min: 2, Max: 3}, cell(2, 3), cell(2, 3)},
		{api.Mark{Sign: -1, State: api.Damaged, Min: 2, Max: 3}, cell(2, 3), cell(2, 3)},
	} {
		got, e := wall.Of(l, []api.Mark{x.mark}, families, 0)
		expectCells(t, "Of with the layer 0", got, e, x.stands)
		got, e = wall.Of(l, []api.Mark{x.mark}, families, 1)
		expectCells(t, "Of with the layer 1", got, e, x.once)
	}
	got, e := wall.Of(l, []api.Mark{{Sign: 3, State: api.Damaged}}, nil, 0)
	expectCells(t, "Of without families", got, e, one(3))
	got, e = wall.Of(l, nil, families, 1)
	expectCells(t, "Of nothing", got, e)
	marks := []api.Mark{{Sign: 0}, {Sign: 1, State: api.Damaged}, {Sign: 2, State: api.Hatched}, {Sign: -1, Max: 2}, {Sign: 2, State: api.Usurped}}
	got, e = wall.Of(list(3), marks, [][]int{{0, 1}}, 1)
	expectCells(t, "Of the example", got, e, one(0), one(0, 1), one(), cell(0, 2), one())
	got, e = wall.Of(l, slices.Repeat(marks[:1], 40), slices.Repeat(families[:1], 40), 0)
	expectCells(t, "Of 40 marks", got, e, slices.Repeat([]api.Cell{one(0)}, 40)...)
}

// P8.1: the marks are those of groups.Line.
func TestOfLine(t *testing.T) {
	l := list(3)
	text := api.Text{Nodes: []api.Node{
		{Kind: api.Honour}, {Kind: api.Glyph, Depth: 1, Sign: 2, State: api.Usurped}, {Kind: api.Gap, Depth: 1, Min: 1, Max: 4},
		{Kind: api.Glyph, Sign: 1, Turn: 2, State: api.Hatched},
	}}
	marks, e := groups.Line(l, text)
	if e != api.OK {
		t.Fatalf("Line: %d", e)
	}
	got, e := wall.Of(l, marks, nil, 0)
	expectCells(t, "Of a text", got, e, cell(1, 4), one(2), one())
}

// P8.1: the errors of Of, in order.
func TestErrorsOfOf(t *testing.T) {
	l := list(3)
	many := func(m api.Mark, n int) []api.Mark { return slices.Repeat([]api.Mark{m}, n) }
	odd, state, gap, good := api.Mark{Sign: 3, State: 4}, api.Mark{State: 4}, api.Mark{Sign: -1, Min: 2, Max: 1}, api.Mark{}
	unknown := [][]int{{0, 1}, {}, {2, 3}}
	for _, x := range []struct {
		what  string
		l     api.List
		marks []api.Mark
		alike [][]int
		layer int
		want  api.Errno
	}{
		{"a list that is not valid", broken(), many(odd, 41), unknown, 2, api.ErrPeriod},
		{"41 marks", l, many(odd, 41), unknown, 2, api.ErrMany},
		{"41 families", l, many(odd, 1), slices.Repeat(unknown, 14)[:41], 2, api.ErrMany},
		{"a family with no sign of the list", l, many(odd, 1), unknown, 2, api.ErrSign},
		{"a family with a negative sign", l, many(good, 1), [][]int{{-1}}, 0, api.ErrSign},
		{"the layer 2", l, many(odd, 1), nil, 2, api.ErrArg},
		{"the layer -1", l, many(odd, 1), nil, -1, api.ErrArg},
		{"no sign of the list", l, []api.Mark{gap, odd, state}, nil, 0, api.ErrSign},
		{"a state 4", l, []api.Mark{gap, state, odd}, nil, 1, api.ErrArg},
		{"a state -1", l, []api.Mark{{State: -1}}, nil, 1, api.ErrArg},
		{"a gap with the state 4", l, []api.Mark{{Sign: -1, State: 4, Max: 1}}, nil, 1, api.ErrArg},
		{"the sign -2", l, []api.Mark{{Sign: -2}}, nil, 0, api.ErrSign},
		{"a gap that is not valid", l, []api.Mark{good, gap}, nil, 0, api.ErrWall},
		{"a gap that is too long", l, []api.Mark{{Sign: -1, Max: 10}}, nil, 0, api.ErrWall},
		{"a gap that is negative", l, []api.Mark{{Sign: -1, Min: -1, Max: 1}}, nil, 0, api.ErrWall},
		{"too many signs", l, append(many(api.Mark{Sign: -1, Max: 9}, 6), many(good, 7)...), nil, 0, api.ErrWall},
		{"a gap without signs", list(0), many(api.Mark{Sign: -1, Max: 1}, 1), nil, 0, api.ErrWall},
		{"a sign of an empty list", list(0), many(good, 1), nil, 0, api.ErrSign},
	} {
		got, e := wall.Of(x.l, x.marks, x.alike, x.layer)
		expectError(t, "Of with "+x.what, got, e, x.want)
	}
	got, e := wall.Of(list(0), many(api.Mark{Sign: -1}, 2), nil, 0)
	expectCells(t, "Of nothing without signs", got, e, cell(0, 0), cell(0, 0))
}

// P8.5
func TestMeet(t *testing.T) {
	for _, x := range []struct {
		a, b, want api.Cell // want is negative if they do not meet
	}{
		{cell(0, 2), cell(1, 3), cell(1, 2)},
		{cell(0, 9), cell(0, 0), cell(0, 0)},
		{cell(2, 5), cell(5, 9), cell(5, 5)},
		{cell(2, 5), cell(6, 9), cell(-1, 0)},
		{cell(0, 3), cell(0, 2, 1), cell(0, 2, 1)},
		{cell(0, 3, 0, 1, 2), cell(0, 2, 1, 2, 3), cell(0, 2, 1, 2)},
		{cell(1, 3, 0, 1, 2), cell(0, 2, 2), cell(1, 2, 2)},
		{cell(0, 3, 0, 2), cell(0, 2, 1, 3), api.Cell{Signs: []int{0, 2}}},
		{cell(0, 3, 1, 3), cell(0, 2, 0, 2), api.Cell{Signs: []int{1, 3}}},
		{cell(0, 3, 0, 2), cell(1, 2, 1, 3), cell(-1, 0)},
		{cell(1, 1, 0), cell(1, 1, 1), cell(-1, 0)},
		{cell(0, 0, 0), cell(0, 0, 1), api.Cell{Signs: []int{0}}},
		{cell(0, 1, 0), cell(2, 2, 1), cell(-1, 0)},
		{cell(0, 0), cell(1, 1), cell(-1, 0)},
	} {
		for _, swapped := range []bool{false, true} {
			if swapped {
				x.a, x.b = x.b, x.a
				if len(x.want.Signs) > 0 && x.want.Max == 0 {
					x.want.Signs = x.a.Signs
				}
			}
			got, e := wall.Meet(list(4), []api.Cell{one(0), x.a}, []api.Cell{one(), x.b})
			if x.want.Min < 0 {
				expectError(t, "Meet of what does not", got, e, api.ErrRestore)
			} else {
				expectCells(t, "Meet", got, e, one(0), x.want)
			}
		}
	}
	got, e := wall.Meet(list(3), left(), right())
	expectCells(t, "Meet of the example", got, e, one(0), cell(1, 2, 1), one(2))
	got, e = wall.Meet(list(3), nil, nil)
	expectCells(t, "Meet of nothing", got, e)
}

// P8.5: the errors of Meet, in order.
func TestErrorsOfMeet(t *testing.T) {
	l, bad := list(3), []api.Cell{cell(0, 10)}
	for _, x := range []struct {
		what string
		l    api.List
		a, b []api.Cell
		want api.Errno
	}{
		{"a list that is not valid", broken(), bad, nil, api.ErrPeriod},
		{"cells that are not valid", l, bad, nil, api.ErrWall},
		{"other cells that are not valid", l, nil, bad, api.ErrWall},
		{"more cells than others", l, left(), right()[:2], api.ErrArg},
		{"fewer cells than others", l, []api.Cell{one(0)}, []api.Cell{one(1), one(1)}, api.ErrArg},
		{"cells that do not meet", l, []api.Cell{one(0), one(0)}, []api.Cell{one(0), one(1)}, api.ErrRestore},
	} {
		got, e := wall.Meet(x.l, x.a, x.b)
		expectError(t, "Meet with "+x.what, got, e, x.want)
	}
}

// The lists of these tests are valid.
func TestLists(t *testing.T) {
	for _, n := range []int{0, 3, 200} {
		if e := signs.Check(list(n)); e != api.OK {
			t.Errorf("the list of %d signs: %d", n, e)
		}
	}
}
