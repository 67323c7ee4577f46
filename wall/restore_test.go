package wall_test

import (
	"slices"
	"testing"

	"ostracon/api"
	"ostracon/wall"
)

// P8.3
func TestRestore(t *testing.T) {
	l := list(3)
	for _, x := range []struct {
		cells    []api.Cell
		parallel []int
		want     api.Restored
	}{
		{left(), []int{0, 1, 1, 2}, api.Restored{Signs: []int{0, 1, 1, 2}, Cells: []int{0, 1, 1, 2}, Source: []int{0, 1, 2, 3}}},
		{left(), []int{1, 1}, api.Restored{Signs: []int{0, 2}, Cells: []int{0, 2}, Source: []int{-1, -1}, Changes: 2}},
		{left(), nil, api.Restored{Signs: []int{0, 2}, Cells: []int{0, 2}, Source: []int{-1, -1}, Changes: 2}},
		{left(), []int{0, 1, 1, 1, 2}, api.Restored{Signs: []int{0, 1, 1, 2}, Cells: []int{0, 1, 1, 2}, Source: []int{0, 1, 2, 4}, Changes: 1}},
		{right(), []int{0, 2}, api.Restored{Signs: []int{0, 1, 2}, Cells: []int{0, 1, 2}, Source: []int{0, -1, 1}, Changes: 1}},
		{nil, []int{0, 1}, api.Restored{Changes: 2}},
		{nil, nil, api.Restored{}},
		{[]api.Cell{cell(0, 9)}, []int{2, 1, 0}, api.Restored{Signs: []int{2, 1, 0}, Cells: []int{0, 0, 0}, Source: []int{0, 1, 2}}},
		{[]api.Cell{cell(2, 9)}, []int{2}, api.Restored{Signs: []int{0, 2}, Cells: []int{0, 0}, Source: []int{-1, 0}, Changes: 1}},
		{[]api.Cell{cell(0, 1, 1), cell(0, 0, 2)}, []int{2}, api.Restored{Changes: 1}},
	} {
		got, e := wall.Restore(l, x.cells, x.parallel)
		expectRestored(t, "Restore", got, e, x.want)
	}
	got, e := wall.Restore(list(0), make([]api.Cell, 40), nil)
	expectRestored(t, "Restore without signs", got, e, api.Restored{})
}

// P8.3
func TestListOfExample(t *testing.T) {
	l := list(3)
	want := allRestored(3, left(), []int{1, 1})
	if len(want) != 13 || want[2].Changes != 2 || want[3].Changes != 3 {
		t.Fatalf("there are %v", want)
	}
	for _, most := range []int{1, 2, 3, 12, 13, 14, 64} {
		got, e := wall.List(l, left(), []int{1, 1}, most)
		if e != api.OK || !slices.EqualFunc(got, want[:min(most, 13)], sameRestored) {
			t.Errorf("List of at most %d = %v, %d", most, got, e)
		}
	}
	got, e := wall.List(l, left(), []int{1, 1}, 3)
	if e != api.OK || len(got) != 3 {
		t.Fatalf("List = %v, %d", got, e)
	}
	expectRestored(t, "the first one", got[0], e, api.Restored{Signs: []int{0, 2}, Cells: []int{0, 2}, Source: []int{-1, -1}, Changes: 2})
	expectRestored(t, "the second one", got[1], e, api.Restored{Signs: []int{0, 1, 2}, Cells: []int{0, 1, 2}, Source: []int{-1, 1, -1}, Changes: 2})
	expectRestored(t, "the third one", got[2], e, api.Restored{Signs: []int{0, 1, 1, 2}, Cells: []int{0, 1, 1, 2}, Source: []int{-1, 0, 1, -1}, Changes: 2})
}

// P8.3, P8.6, P8.7 and P0.5: List has the first ones of all restorations.
func TestListAsTold(t *testing.T) {
	d := dice(4)
	whole, part := 0, 0
	for range 2500 {
		n := 1 + d.below(4)
		cells, parallel := d.cells(n, 4, 2), d.line(n, 5)
		lines := linesOf(n, cells)
		if len(lines) > 300 {
			continue
		}
		want := allRestored(n, cells, parallel)
		most := 1 + d.below(min(2*len(want), api.MaxList))
		if most < len(want) {
			part++
		} else {
			whole++
		}
		got, e := wall.List(list(n), cells, parallel, most)
		if e != api.OK || !slices.EqualFunc(got, want[:min(most, len(want))], sameRestored) {
			t.Fatalf("List with %d signs of %v by %v, at most %d = %v, %d, want %v", n, cells, parallel, most, got, e, want)
		}
		first, e := wall.Restore(list(n), cells, parallel)
		expectRestored(t, "Restore", first, e, want[0])
	}
	if whole < 500 || part < 500 {
		t.Errorf("%d lists are whole, %d are not", whole, part)
	}
}

// P8.3: many signs that are alike, of which the first ones come first.
func TestListOfManySigns(t *testing.T) {
	l := list(200)
	got, e := wall.List(l, []api.Cell{one()}, []int{5, 7}, 64)
	if e != api.OK || len(got) != 64 {
		t.Fatalf("List = %v, %d", got, e)
	}
	want := []int{5, 7} // a change each; the others take two
	for sign := 0; len(want) < 64; sign++ {
		if sign != 5 && sign != 7 {
			want = append(want, sign)
		}
	}
	for i, r := range got {
		if !slices.Equal(r.Signs, want[i:i+1]) || r.Changes != min(2, 1+i/2) {
			t.Errorf("the restoration %d is %v, want the sign %d", i, r, want[i])
		}
	}
	got, e = wall.List(l, []api.Cell{cell(2, 2)}, []int{199}, 64)
	if e != api.OK || len(got) != 64 {
		t.Fatalf("List = %v, %d", got, e)
	}
	for i, r := range got {
		if !slices.Equal(r.Signs, []int{i, 199}) || r.Changes != 1 || !slices.Equal(r.Source, []int{-1, 0}) {
			t.Errorf("the restoration %d is %v", i, r)
		}
	}
}

// P8.3: a change counts more than any number of signs.
func TestListOfLongAndShort(t *testing.T) {
	// The lines are 0 to 60 signs 1; of the 41 signs of the parallel 20 are 1.
	cells := append(slices.Repeat([]api.Cell{cell(0, 9, 1)}, 6), cell(0, 6, 1))
	parallel := slices.Concat(slices.Repeat([]int{1}, 20), make([]int, 21))
	got, e := wall.List(list(2), cells, parallel, 64)
	if e != api.OK || len(got) != 61 || !slices.IsSortedFunc(got, compareRestored) {
		t.Errorf("List = %v, %d", got, e)
	}
	if r := got[len(got)-2]; len(r.Signs) != 60 || r.Changes != 40 {
		t.Errorf("the last one but one is %v", r)
	}
	if r := got[len(got)-1]; len(r.Signs) != 0 || r.Changes != 41 {
		t.Errorf("the last one is %v", r)
	}
}

// P8.3: the errors of List and Restore, in order.
func TestErrorsOfList(t *testing.T) {
	l, bad := list(3), []api.Cell{cell(0, 10)}
	long := slices.Repeat([]int{3}, 61)
	for _, x := range []struct {
		what     string
		l        api.List
		cells    []api.Cell
		parallel []int
		most     int
		want     api.Errno
	}{
		{"a list that is not valid", broken(), bad, long, 0, api.ErrPeriod},
		{"cells that are not valid", l, bad, long, 0, api.ErrWall},
		{"a parallel of 61 signs", l, left(), long, 0, api.ErrMany},
		{"a parallel with no sign of the list", l, left(), long[:60], 0, api.ErrSign},
		{"a parallel with a negative sign", l, left(), []int{0, -1}, 65, api.ErrSign},
		{"no restorations", l, left(), nil, 0, api.ErrArg},
		{"65 restorations", l, left(), nil, 65, api.ErrArg},
		{"less than no restorations", l, left(), nil, -1, api.ErrArg},
	} {
		got, e := wall.List(x.l, x.cells, x.parallel, x.most)
		expectError(t, "List with "+x.what, got, e, x.want)
		if x.want != api.ErrArg {
			first, e := wall.Restore(x.l, x.cells, x.parallel)
			expectError(t, "Restore with "+x.what, first, e, x.want)
			sure, e := wall.Certain(x.l, x.cells, x.parallel)
			expectError(t, "Certain with "+x.what, sure, e, x.want)
		}
	}
}

// P8.3
func TestChoose(t *testing.T) {
	l := list(3)
	for _, x := range []struct {
		parallels [][]int
		want      int
	}{
		{[][]int{{1, 1}, {0, 2}}, 1},
		{[][]int{{0, 2}, {1, 1}}, 0},
		{[][]int{{1, 1}, {0, 0, 2}, {0, 2}, nil}, 1},
		{[][]int{nil, {1, 1}, {2}, {0}}, 2},
		{[][]int{nil}, 0},
		{append(slices.Repeat([][]int{{1, 1}}, 39), []int{0, 1, 2}), 39},
	} {
		which, got, e := wall.Choose(l, left(), x.parallels)
		if which != x.want {
			t.Errorf("Choose of %v = %d, want %d", x.parallels, which, x.want)
		}
		expectRestored(t, "Choose", got, e, allRestored(3, left(), x.parallels[x.want])[0])
	}
}

// P8.3: the errors of Choose, in order.
func TestErrorsOfChoose(t *testing.T) {
	l, bad := list(3), []api.Cell{cell(0, 10)}
	long, odd := make([]int, 61), []int{3}
	for _, x := range []struct {
		what      string
		l         api.List
		cells     []api.Cell
		parallels [][]int
		want      api.Errno
	}{
		{"a list that is not valid", broken(), bad, make([][]int, 41), api.ErrPeriod},
		{"cells that are not valid", l, bad, make([][]int, 41), api.ErrWall},
		{"41 parallels", l, left(), slices.Repeat([][]int{odd}, 41), api.ErrMany},
		{"no sign of the list", l, left(), [][]int{{0}, odd, long}, api.ErrSign},
		{"a parallel of 61 signs", l, left(), [][]int{{0}, long, odd}, api.ErrMany},
		{"no parallels", l, left(), nil, api.ErrNone},
	} {
		which, got, e := wall.Choose(x.l, x.cells, x.parallels)
		expectError(t, "Choose with "+x.what, which, e, x.want)
		expectError(t, "Choose with "+x.what, got, e, x.want)
	}
}

// P8.3: Choose has the first one of the best restorations of all parallels.
func TestChooseAsTold(t *testing.T) {
	d := dice(5)
	var chosen [4]int
	for range 500 {
		n := 1 + d.below(4)
		cells := d.cells(n, 4, 2)
		var parallels [][]int
		for range 1 + d.below(4) {
			parallels = append(parallels, d.line(n, 5))
		}
		which, got, e := wall.Choose(list(n), cells, parallels)
		for i, parallel := range parallels {
			r, e := wall.Restore(list(n), cells, parallel)
			if e != api.OK || r.Changes < got.Changes || r.Changes == got.Changes && i < which || i == which && !sameRestored(r, got) {
				t.Fatalf("Choose of %v by %v = %d, %v, but the parallel %d has %v, %d", cells, parallels, which, got, i, r, e)
			}
		}
		if e != api.OK {
			t.Fatalf("Choose: %d", e)
		}
		chosen[which]++
	}
	if slices.Contains(chosen[:], 0) {
		t.Errorf("the parallels are chosen %v times", chosen)
	}
}

// P8.4
func TestVerify(t *testing.T) {
	l, parallel := list(3), []int{1, 1}
	good := api.Restored{Signs: []int{0, 1, 2}, Cells: []int{0, 1, 2}, Source: []int{-1, 1, -1}, Changes: 2}
	if e := wall.Verify(l, left(), parallel, good); e != api.OK {
		t.Errorf("Verify = %d", e)
	}
	if e := wall.Verify(l, nil, nil, api.Restored{}); e != api.OK {
		t.Errorf("Verify of nothing = %d", e)
	}
	for what, change := range map[string]func(r *api.Restored){
		"fewer changes":      func(r *api.Restored) { r.Changes = 1 },
		"more changes":       func(r *api.Restored) { r.Changes = 3 },
		"another source":     func(r *api.Restored) { r.Source = []int{-1, 0, -1} },
		"no source":          func(r *api.Restored) { r.Source = []int{-1, -1, -1} },
		"a changed source":   func(r *api.Restored) { r.Source = []int{0, 1, -1} },
		"too short a source": func(r *api.Restored) { r.Source = []int{-1, 1} },
		"too long a source":  func(r *api.Restored) { r.Source = []int{-1, 1, -1, -1} },
		"other cells":        func(r *api.Restored) { r.Cells = []int{0, 2, 2} },
		"too few cells":      func(r *api.Restored) { r.Cells = []int{0, 1} },
		"too many cells":     func(r *api.Restored) { r.Cells = []int{0, 1, 2, 2} },
		"no evidence":        func(r *api.Restored) { r.Cells, r.Source = nil, nil },
		"another sign":       func(r *api.Restored) { r.Signs = []int{0, 0, 2} },
		"signs that do not agree": func(r *api.Restored) {
			r.Signs, r.Source = []int{1, 1, 2}, []int{0, 1, -1}
			r.Changes = 1
		},
		"signs without a division": func(r *api.Restored) {
			*r = api.Restored{Signs: []int{1}, Source: []int{0}, Changes: 1}
		},
	} {
		r := good
		change(&r)
		if e := wall.Verify(l, left(), parallel, r); e != api.ErrRestore {
			t.Errorf("Verify with %s = %d", what, e)
		}
	}
	if e := wall.Verify(l, left(), []int{0, 1}, good); e != api.ErrRestore {
		t.Errorf("Verify by another parallel = %d", e)
	}
}

// P8.4: the errors of Verify, in order.
func TestErrorsOfVerify(t *testing.T) {
	l, bad := list(3), []api.Cell{cell(0, 10)}
	long, odd := make([]int, 61), []int{3}
	for _, x := range []struct {
		what     string
		l        api.List
		cells    []api.Cell
		parallel []int
		signs    []int
		want     api.Errno
	}{
		{"a list that is not valid", broken(), bad, long, odd, api.ErrPeriod},
		{"cells that are not valid", l, bad, long, odd, api.ErrWall},
		{"a parallel of 61 signs", l, left(), long, odd, api.ErrMany},
		{"a parallel with no sign of the list", l, left(), odd, long, api.ErrSign},
		{"61 signs", l, left(), nil, long, api.ErrMany},
		{"no sign of the list", l, left(), nil, odd, api.ErrSign},
		{"signs that do not agree", l, left(), nil, nil, api.ErrRestore},
	} {
		if e := wall.Verify(x.l, x.cells, x.parallel, api.Restored{Signs: x.signs}); e != x.want {
			t.Errorf("Verify with %s = %d, want %d", x.what, e, x.want)
		}
	}
}

func expectLost(t *testing.T, cells []api.Cell, r api.Restored, want ...[]int) {
	t.Helper()
	got, e := wall.Lost(list(3), cells, r)
	if e != api.OK || !slices.EqualFunc(got, want, slices.Equal) {
		t.Errorf("Lost of %v and %v = %v, %d, want %v", cells, r, got, e, want)
	}
}

// P8.4
func TestLost(t *testing.T) {
	expectLost(t, left(), api.Restored{Signs: []int{0, 1, 1, 2}, Cells: []int{0, 1, 1, 2}}, []int{0}, []int{1, 1}, []int{2})
	expectLost(t, left(), api.Restored{Signs: []int{0, 2}, Cells: []int{0, 2}}, []int{0}, nil, []int{2})
	expectLost(t, left(), api.Restored{Signs: []int{0, 2, 2}, Cells: []int{0, 1, 2}, Source: []int{9}, Changes: -1}, []int{0}, []int{2}, []int{2})
	expectLost(t, nil, api.Restored{})
	expectLost(t, make([]api.Cell, 2), api.Restored{}, nil, nil)
}

// P8.4: the errors of Lost, in order.
func TestErrorsOfLost(t *testing.T) {
	l, bad := list(3), []api.Cell{cell(0, 10)}
	for _, x := range []struct {
		what  string
		l     api.List
		cells []api.Cell
		r     api.Restored
		want  api.Errno
	}{
		{"a list that is not valid", broken(), bad, api.Restored{Signs: make([]int, 61)}, api.ErrPeriod},
		{"cells that are not valid", l, bad, api.Restored{Signs: make([]int, 61)}, api.ErrWall},
		{"61 signs", l, left(), api.Restored{Signs: make([]int, 61)}, api.ErrMany},
		{"no sign of the list", l, left(), api.Restored{Signs: []int{3}}, api.ErrSign},
		{"signs that do not agree", l, left(), api.Restored{Signs: []int{1, 2}, Cells: []int{0, 2}}, api.ErrRestore},
		{"another division", l, []api.Cell{cell(0, 1), cell(0, 1)}, api.Restored{Signs: []int{1}, Cells: []int{1}}, api.ErrRestore},
		{"too few cells", l, left(), api.Restored{Signs: []int{0, 2}, Cells: []int{0}}, api.ErrRestore},
		{"too many cells", l, left(), api.Restored{Signs: []int{0, 2}, Cells: []int{0, 2, 2}}, api.ErrRestore},
		{"cells that are not there", l, left(), api.Restored{Signs: []int{0, 2}, Cells: []int{0, 3}}, api.ErrRestore},
	} {
		got, e := wall.Lost(x.l, x.cells, x.r)
		expectError(t, "Lost with "+x.what, got, e, x.want)
	}
}

// P8.4
func TestCertain(t *testing.T) {
	l := list(3)
	for _, x := range []struct {
		cells    []api.Cell
		parallel []int
		want     []int
	}{
		{left(), []int{1, 1}, []int{0, -1, 2}},
		{left(), []int{0, 1, 2}, []int{0, 1, 2}},
		{left(), []int{0, 1, 1, 2}, []int{0, -1, 2}},
		{left(), []int{0, 2}, []int{0, -1, 2}},
		{[]api.Cell{one(0, 1)}, []int{2}, []int{-1}},
		{[]api.Cell{one(0, 1), one(2)}, []int{2}, []int{-1, 2}},
		{[]api.Cell{cell(0, 1, 1)}, []int{0}, []int{-1}}, // nothing, or the sign 1
		{[]api.Cell{cell(1, 2, 1)}, []int{1, 0}, []int{-1}},
		{[]api.Cell{cell(0, 1, 0), cell(0, 1)}, []int{1}, []int{-1, 1}},
		{nil, []int{1}, nil},
	} {
		got, e := wall.Certain(l, x.cells, x.parallel)
		expectNumbers(t, "Certain", got, e, x.want...)
	}
}

// P8.4: 64 best restorations are not too many.
func TestCertainOfMany(t *testing.T) {
	cells := []api.Cell{one(0), one()}
	parallel := []int{0} // each second sign is a change
	got, e := wall.Certain(list(64), cells, parallel)
	expectNumbers(t, "Certain of 64 restorations", got, e, 0, -1)
	for _, n := range []int{65, 66, 200} {
		got, e := wall.Certain(list(n), cells, parallel)
		expectError(t, "Certain of too many restorations", got, e, api.ErrMany)
	}
	// The others take more changes.
	got, e = wall.Certain(list(200), cells, []int{0, 7})
	expectNumbers(t, "Certain of one restoration", got, e, 0, 7)
	got, e = wall.Certain(list(200), []api.Cell{cell(0, 9)}, nil)
	expectNumbers(t, "Certain of nothing", got, e, -1)
}

// P8.4: Certain has what all best restorations have.
func TestCertainAsTold(t *testing.T) {
	d := dice(6)
	sure := 0
	for range 2500 {
		n := 1 + d.below(4)
		cells, parallel := d.cells(n, 4, 2), d.line(n, 5)
		if len(linesOf(n, cells)) > 300 {
			continue
		}
		all := allRestored(n, cells, parallel)
		all = slices.DeleteFunc(slices.Clone(all), func(r api.Restored) bool { return r.Changes > all[0].Changes })
		got, e := wall.Certain(list(n), cells, parallel)
		if len(all) > 64 {
			expectError(t, "Certain", got, e, api.ErrMany)
			continue
		}
		want := slices.Repeat([]int{-1}, len(cells))
		for c := range cells {
			if signs, ok := signsIn(all, c); ok {
				want[c] = signs
				sure++
			}
		}
		if e != api.OK || !slices.Equal(got, want) {
			t.Fatalf("Certain of %v by %v = %v, %d, want %v", cells, parallel, got, e, want)
		}
	}
	if sure < 1000 {
		t.Errorf("only %d signs are certain", sure)
	}
}

// signsIn returns the one sign that a cell has in all restorations, if it has
// one in each of them and always the same.
func signsIn(all []api.Restored, c int) (sign int, ok bool) {
	var first []int
	for i, r := range all {
		var its []int
		for j, at := range r.Cells {
			if at == c {
				its = append(its, r.Signs[j])
			}
		}
		if i == 0 {
			first = its
		}
		if len(its) != 1 || its[0] != first[0] {
			return 0, false
		}
	}
	return first[0], true
}
