package copies_test

import (
	"math"
	"slices"
	"testing"

	"ostracon/api"
	"ostracon/copies"
)

func expectAlign(t *testing.T, a, b []int, cost int, want []api.Pair) {
	t.Helper()
	pairs, n, e := copies.Align(a, b)
	expect(t, "Align", pairs, e, want)
	expect(t, "the cost of Align", n, e, cost)
}

// P9.1
func TestAlign(t *testing.T) {
	for _, x := range []struct {
		a, b []int
		cost int
		want []api.Pair
	}{
		{[]int{1, 2, 3}, []int{1, 3}, 2, []api.Pair{pair(0, 0), pair(1, -1), pair(2, 1)}},
		{[]int{1, 2}, []int{1, 3}, 3, []api.Pair{pair(0, 0), pair(1, 1)}},
		{nil, nil, 0, nil},
		{[]int{0}, nil, 2, []api.Pair{pair(0, -1)}},
		{nil, []int{0, 0}, 4, []api.Pair{pair(-1, 0), pair(-1, 1)}},
		{[]int{0}, []int{math.MaxInt}, 3, []api.Pair{pair(0, 0)}},
		{[]int{7, 7}, []int{7}, 2, []api.Pair{pair(0, 0), pair(1, -1)}},
		{[]int{7}, []int{7, 7}, 2, []api.Pair{pair(0, 0), pair(-1, 1)}},
		{[]int{1, 2}, []int{3}, 5, []api.Pair{pair(0, 0), pair(1, -1)}},
		{[]int{3}, []int{1, 2}, 5, []api.Pair{pair(0, 0), pair(-1, 1)}},
		{[]int{1, 2}, []int{2, 1}, 4, []api.Pair{pair(0, -1), pair(1, 0), pair(-1, 1)}},
		{[]int{1, 2, 2}, []int{2}, 4, []api.Pair{pair(0, -1), pair(1, 0), pair(2, -1)}},
		// Four pairs of different signs cost as much as six places alone.
		{[]int{2, 3, 4, 1}, []int{1, 5, 6, 7}, 12, []api.Pair{pair(0, 0), pair(1, 1), pair(2, 2), pair(3, 3)}},
	} {
		expectAlign(t, x.a, x.b, x.cost, x.want)
	}
}

// P9.1: the greatest lines.
func TestAlignOfSixtySigns(t *testing.T) {
	long, other := numbers(60, 1), numbers(60, 2)
	var together, left, right []api.Pair
	for i := range 60 {
		together = append(together, pair(i, i))
		left, right = append(left, pair(i, -1)), append(right, pair(-1, i))
	}
	expectAlign(t, long, long, 0, together)
	expectAlign(t, long, other, 180, together)
	expectAlign(t, long, nil, 120, left)
	expectAlign(t, nil, long, 120, right)
}

// P9.1 and P9.5: of all alignments Align finds the first one with the least cost.
func TestAlignAsTold(t *testing.T) {
	d := dice(1)
	for range 2500 {
		a, b := d.couple(5)
		pairs, cost := firstAlignment(a, b)
		expectAlign(t, a, b, cost, pairs)
	}
}

// badLines are two lines each, and the error that comes first.
func badLines() []struct {
	what string
	a, b []int
	want api.Errno
} {
	long := numbers(61, 0)
	return []struct {
		what string
		a, b []int
		want api.Errno
	}{
		{"61 signs", long, nil, api.ErrMany},
		{"no sign", odd(), nil, api.ErrSign},
		{"the least number", []int{math.MinInt}, nil, api.ErrSign},
		{"another line of 61 signs", nil, long, api.ErrMany},
		{"another line with no sign", nil, odd(), api.ErrSign},
		{"no sign, and 61 signs", odd(), long, api.ErrSign},
		{"61 signs, and no sign", long, odd(), api.ErrMany},
		{"61 times no sign", numbers(61, -1), nil, api.ErrMany},
		{"another line of 61 times no sign", nil, numbers(61, -1), api.ErrMany},
	}
}

// P9.1
func TestErrorsOfAlign(t *testing.T) {
	for _, x := range badLines() {
		pairs, cost, e := copies.Align(x.a, x.b)
		expectError(t, "Align with "+x.what, pairs, e, x.want)
		expectError(t, "the cost of Align with "+x.what, cost, e, x.want)
	}
}

// P9.1
func TestVariants(t *testing.T) {
	base := []int{1, 2, 3, 4}
	for _, x := range []struct {
		what   string
		base   []int
		others [][]int
		want   []copies.Variant
	}{
		{"the example", base, [][]int{{1, 3, 4}, {1, 2, 5, 5, 4}}, []copies.Variant{{At: 1}, {At: 2, Copy: 1, Signs: []int{5, 5}}}},
		{"no copies", base, nil, nil},
		{"the base and a variant", base, [][]int{base, {1, 2, 3, 5}}, []copies.Variant{{At: 3, Copy: 1, Signs: []int{5}}}},
		{"a beginning and an end", base, [][]int{{0, 1, 2, 3, 4, 5}}, []copies.Variant{{Signs: []int{0}}, {At: 4, Signs: []int{5}}}},
		{"nothing left", base, [][]int{nil}, []copies.Variant{{}}},
		{"nothing first", nil, [][]int{{6, 7}, nil, {8}}, []copies.Variant{{Signs: []int{6, 7}}, {Copy: 2, Signs: []int{8}}}},
		{"more than is omitted", base, [][]int{{1, 9, 9, 9, 4}}, []copies.Variant{{At: 1, Signs: []int{9, 9, 9}}}},
		{"less than is omitted", base, [][]int{{1, 9, 4}}, []copies.Variant{{At: 1, Signs: []int{9}}}},
		{"a variant behind one sign that agrees", base, [][]int{{9, 2, 9, 4}}, []copies.Variant{{Signs: []int{9}}, {At: 2, Signs: []int{9}}}},
		{"variants at the same place", base, [][]int{{1, 2, 4}, {9, 2, 3, 4}, {1, 2, 8, 4}, {2, 3, 4}}, []copies.Variant{{Copy: 1, Signs: []int{9}}, {Copy: 3}, {At: 2}, {At: 2, Copy: 2, Signs: []int{8}}}},
		{"eight copies", []int{5}, slices.Repeat([][]int{{5}, {6}}, 4), []copies.Variant{{Copy: 1, Signs: []int{6}}, {Copy: 3, Signs: []int{6}}, {Copy: 5, Signs: []int{6}}, {Copy: 7, Signs: []int{6}}}},
	} {
		got, e := copies.Variants(x.base, x.others)
		expect(t, "Variants of "+x.what, got, e, x.want)
	}
}

// P9.1: the variants of many copies are those of each, by At and then by Copy.
func TestVariantsAsTold(t *testing.T) {
	d := dice(2)
	for range 400 {
		base, _ := d.couple(5)
		var others [][]int
		var all [][]change
		for range d.below(api.MaxCopies + 1) {
			other := d.copied(5, base, 4)
			other = other[:min(len(other), 6)]
			pairs, _ := firstAlignment(base, other)
			others, all = append(others, other), append(all, changes(base, other, pairs))
		}
		var want []copies.Variant
		for at := range len(base) + 1 {
			for i := range all {
				for _, c := range all[i] {
					if c.At == at {
						want = append(want, copies.Variant{At: at, Copy: i, Signs: c.Signs})
					}
				}
			}
		}
		got, e := copies.Variants(base, others)
		expect(t, "Variants", got, e, want)
	}
}

// P9.1
func TestErrorsOfVariants(t *testing.T) {
	for _, x := range badLines() {
		got, e := copies.Variants(x.a, [][]int{nil, x.b})
		expectError(t, "Variants with "+x.what, got, e, x.want)
		got, e = copies.Variants(nil, [][]int{x.a, x.b})
		expectError(t, "Variants of copies with "+x.what, got, e, x.want)
	}
	many := slices.Repeat([][]int{odd()}, 9)
	got, e := copies.Variants(nil, many)
	expectError(t, "Variants of nine copies", got, e, api.ErrMany)
	got, e = copies.Variants(odd(), many)
	expectError(t, "Variants of no line and nine copies", got, e, api.ErrSign)
	got, e = copies.Variants(nil, many[:8])
	expectError(t, "Variants of eight copies that are none", got, e, api.ErrSign)
}

// P9.1
func TestExtent(t *testing.T) {
	base := []int{1, 2, 3, 4}
	for _, x := range []struct {
		other    []int
		at, want int
	}{
		{[]int{1, 3, 4}, 1, 1},
		{[]int{1, 2, 5, 5, 4}, 2, 1},
		{[]int{0, 1, 2, 3, 4, 5}, 0, 0},
		{[]int{0, 1, 2, 3, 4, 5}, 4, 0},
		{nil, 0, 4},
		{[]int{9, 2, 4}, 0, 1},
		{[]int{9, 2, 4}, 2, 1},
		{[]int{1, 9, 4}, 1, 2},
		{[]int{1, 9, 9, 9, 4}, 1, 2},
	} {
		got, e := copies.Extent(base, x.other, x.at)
		expect(t, "Extent", got, e, x.want)
	}
	got, e := copies.Extent(numbers(60, 1), numbers(60, 2), 0)
	expect(t, "Extent of 60 signs", got, e, 60)
}

// P9.1
func TestErrorsOfExtent(t *testing.T) {
	for _, x := range badLines() {
		got, e := copies.Extent(x.a, x.b, 0)
		expectError(t, "Extent with "+x.what, got, e, x.want)
		got, e = copies.Extent(x.a, x.b, -1)
		expectError(t, "Extent of no variant with "+x.what, got, e, x.want)
	}
	base := []int{1, 2, 3, 4}
	for _, at := range []int{0, 2, 3, 4, 5, -1, math.MinInt, math.MaxInt} {
		got, e := copies.Extent(base, []int{1, 4}, at)
		expectError(t, "Extent of no variant", got, e, api.ErrArg)
	}
	got, e := copies.Extent(base, base, 0)
	expectError(t, "Extent of the base itself", got, e, api.ErrArg)
}

// P9.1
func TestApply(t *testing.T) {
	base, other := []int{1, 2, 3, 4}, []int{0, 1, 5, 5, 3}
	for _, x := range []struct {
		choose []bool
		want   []int
	}{
		{[]bool{false, false, false}, base},
		{[]bool{true, false, false}, []int{0, 1, 2, 3, 4}},
		{[]bool{false, true, false}, []int{1, 5, 5, 3, 4}},
		{[]bool{false, false, true}, []int{1, 2, 3}},
		{[]bool{true, false, true}, []int{0, 1, 2, 3}},
		{[]bool{true, true, true}, other},
	} {
		got, e := copies.Apply(base, other, x.choose)
		expect(t, "Apply", got, e, x.want)
	}
	got, e := copies.Apply(base, base, nil)
	expect(t, "Apply of the base itself", got, e, base)
	got, e = copies.Apply(nil, nil, nil)
	expect(t, "Apply of nothing", got, e, nil)
}

// P9.1: a line that is made of two valid ones may have more than 60 signs.
func TestApplyOfManySigns(t *testing.T) {
	base, other := append(numbers(30, 1), numbers(30, 2)...), append(numbers(30, 2), numbers(30, 3)...)
	got, e := copies.Apply(base, other, []bool{false, true})
	expect(t, "Apply", got, e, append(slices.Clip(base), numbers(30, 3)...))
	got, e = copies.Apply(base, other, []bool{true, false})
	expect(t, "Apply", got, e, numbers(30, 2))
}

// P9.1: Extent and Apply, for all choices.
func TestApplyAsTold(t *testing.T) {
	d := dice(3)
	for range 800 {
		base, other := d.couple(5)
		pairs, _ := firstAlignment(base, other)
		all := changes(base, other, pairs)
		for _, choose := range choices(len(all)) {
			got, e := copies.Apply(base, other, choose)
			expect(t, "Apply", got, e, applied(base, all, choose))
		}
		extents := map[int]int{}
		for _, c := range all {
			extents[c.At] = c.Extent
		}
		for at := -1; at <= len(base)+1; at++ {
			got, e := copies.Extent(base, other, at)
			if want, ok := extents[at]; ok {
				expect(t, "Extent", got, e, want)
			} else {
				expectError(t, "Extent", got, e, api.ErrArg)
			}
		}
	}
}

// P9.1
func TestErrorsOfApply(t *testing.T) {
	for _, x := range badLines() {
		got, e := copies.Apply(x.a, x.b, make([]bool, 70))
		expectError(t, "Apply with "+x.what, got, e, x.want)
	}
	base := []int{1, 2, 3, 4}
	for n := range 5 {
		got, e := copies.Apply(base, []int{1, 9, 3}, make([]bool, n))
		if n == 2 {
			expect(t, "Apply with two choices", got, e, base)
			continue
		}
		expectError(t, "Apply with another number of choices", got, e, api.ErrArg)
	}
	got, e := copies.Apply(base, base, []bool{false})
	expectError(t, "Apply of no variants with a choice", got, e, api.ErrArg)
}
