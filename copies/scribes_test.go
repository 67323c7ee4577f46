package copies_test

import (
	"math"
	"math/big"
	"math/bits"
	"slices"
	"testing"

	"ostracon/api"
	"ostracon/copies"
)

// P9.2
func TestFisher(t *testing.T) {
	for _, x := range []struct {
		a, b api.Tally
		want copies.Chance
	}{
		{tally(3, 0), tally(0, 3), chance(1, 10)},
		{tally(2, 1), tally(1, 2), chance(1, 1)},
		{tally(5, 0), tally(0, 5), chance(1, 126)},
		{tally(5, 0), tally(2, 2), chance(1, 6)},
		{tally(0, 5), tally(2, 2), chance(1, 6)},
		{tally(3, 1), tally(1, 3), chance(17, 35)},
		{tally(8, 2), tally(1, 5), chance(5, 143)},
		{tally(0, 0), tally(0, 0), chance(1, 1)},
		{tally(1, 0), tally(0, 0), chance(1, 1)},
		{tally(1, 0), tally(0, 1), chance(1, 1)},
		{tally(60, 0), tally(0, 0), chance(1, 1)},
		{tally(0, 0), tally(0, 60), chance(1, 1)},
		{tally(15, 15), tally(15, 15), chance(1, 1)},
		{tally(20, 10), tally(10, 20), chance(52098742026671, 2687831399201396)},
		{tally(1, 29), tally(30, 0), chance(1, 1907493251046152)},
		{tally(30, 0), tally(0, 30), chance(1, 59132290782430712)},
	} {
		got, e := copies.Fisher(x.a, x.b)
		expect(t, "Fisher", got, e, x.want)
	}
}

// P9.2: the sets of r of n things with x of the first m are counted one by one.
func TestFisherCounted(t *testing.T) {
	for n := range 10 {
		for m := range n + 1 {
			for r := range n + 1 {
				weights := map[int]int{}
				sets := 0
				for set := range uint(1) << n {
					if bits.OnesCount(set) == r {
						weights[bits.OnesCount(set&(1<<m-1))]++
						sets++
					}
				}
				for x := range weights {
					some := 0
					for _, w := range weights {
						if w <= weights[x] {
							some += w
						}
					}
					got, e := copies.Fisher(tally(x, m-x), tally(r-x, n-m-(r-x)))
					if e != api.OK || rat(got).Cmp(big.NewRat(int64(some), int64(sets))) != 0 {
						t.Errorf("Fisher with %d of %d, and %d of %d = %v, %d, want %d of %d", x, m, r, n, got, e, some, sets)
					}
				}
			}
		}
	}
}

// P9.2: great numbers give the exact fraction, in lowest terms.
func TestFisherAsTold(t *testing.T) {
	d := dice(4)
	great := 0
	for range 3000 {
		a, b := d.tallies(api.MaxTally)
		want := exact(a, b)
		got, e := copies.Fisher(a, b)
		expect(t, "Fisher", got, e, chance(int(want.Num().Int64()), int(want.Denom().Int64())))
		if got.Den > 1<<31 {
			great++
		}
	}
	if great < 50 {
		t.Errorf("only %d fractions are great", great)
	}
}

// badTallies are tallies that are not valid together.
func badTallies() [][2]api.Tally {
	return [][2]api.Tally{
		{tally(-1, 0), tally(31, 0)},
		{tally(0, -1), tally(31, 0)},
		{tally(31, 0), tally(-1, 0)},
		{tally(31, 0), tally(0, -1)},
		{tally(30, 0), tally(31, 0)},
		{tally(61, 0), tally(0, 0)},
		{tally(0, 61), tally(0, 0)},
		{tally(0, 0), tally(61, 0)},
		{tally(0, 0), tally(0, 61)},
		{tally(15, 15), tally(15, 16)},
		{tally(61, -1), tally(0, 0)},
		{tally(math.MaxInt, math.MaxInt), tally(1, 1)},
		{tally(math.MaxInt, 1), tally(math.MaxInt, 1)},
		{tally(math.MinInt, math.MaxInt), tally(1, 0)},
		{tally(math.MinInt, 0), tally(math.MinInt, 0)},
	}
}

// P9.2
func TestErrorsOfFisher(t *testing.T) {
	for _, x := range badTallies() {
		got, e := copies.Fisher(x[0], x[1])
		expectError(t, "Fisher", got, e, api.ErrTally)
	}
}

// P9.2
func TestApart(t *testing.T) {
	one, two, both := tally(5, 0), tally(0, 5), tally(2, 2)
	type tallies = []api.Tally
	for _, x := range []struct {
		a, b  []api.Tally
		limit copies.Chance
		want  bool
	}{
		{tallies{one}, tallies{two}, chance(1, 20), true},
		{tallies{one}, tallies{both}, chance(1, 20), false},
		{tallies{one}, tallies{two}, chance(1, 126), true},
		{tallies{one}, tallies{two}, chance(1, 127), false},
		{tallies{one}, tallies{two}, chance(79, 10000), false}, // 1/126 is 0.00793..
		{tallies{one}, tallies{two}, chance(80, 10000), true},
		{tallies{one}, tallies{both}, chance(2, 12), true},
		{tallies{one}, tallies{both}, chance(1666, 10000), false},
		{tallies{one}, tallies{one}, chance(1, 1), true},
		{tallies{one}, tallies{one}, chance(9999, 10000), false},
		{tallies{one}, tallies{two}, chance(0, 1), false},
		{tallies{tally(30, 0)}, tallies{tally(0, 30)}, chance(0, 10000), false},
		{tallies{tally(30, 0)}, tallies{tally(0, 30)}, chance(1, 10000), true},
		{tallies{tally(30, 0)}, tallies{tally(0, 30)}, chance(500, 10000), true},
		{tallies{tally(30, 0)}, tallies{tally(0, 30)}, chance(10000, 10000), true},
		{tallies{tally(20, 10)}, tallies{tally(10, 20)}, chance(193, 10000), false}, // it is 0.01938..
		{tallies{tally(20, 10)}, tallies{tally(10, 20)}, chance(194, 10000), true},
		{tallies{one, one, one}, tallies{one, two, one}, chance(1, 20), true},
		{tallies{one, one, one}, tallies{one, one, two}, chance(1, 20), true},
		{tallies{two, one, one}, tallies{one, one, one}, chance(1, 20), true},
		{tallies{one, both, one}, tallies{one, two, one}, chance(1, 20), false},
		{append(slices.Repeat(tallies{one}, 11), one), append(slices.Repeat(tallies{one}, 11), two), chance(1, 20), true},
	} {
		got, e := copies.Apart(x.a, x.b, x.limit)
		expect(t, "Apart", got, e, x.want)
		got, e = copies.Apart(x.b, x.a, x.limit)
		expect(t, "Apart the other way", got, e, x.want)
	}
}

// P9.2: limits that are close to the fraction are told from it, however great its
// terms are.
func TestApartIsExact(t *testing.T) {
	d := dice(5)
	equal, great := 0, 0
	for i := range 3000 {
		a, b := d.tallies(api.MaxTally)
		if i%3 == 0 {
			one, two := 10+d.below(11), 10+d.below(11)
			a, b = tally(one, 30-one), tally(two, 30-two)
		}
		f := exact(a, b)
		den := 1 + d.below(10000)
		if f.Denom().IsInt64() && f.Denom().Int64() <= 10000 {
			den = int(f.Denom().Int64())
		}
		num := new(big.Int).Mul(f.Num(), big.NewInt(int64(den)))
		low := int(num.Quo(num, f.Denom()).Int64())
		for _, n := range []int{low, min(low+1, den), d.below(den + 1)} {
			limit := chance(n, den)
			order := f.Cmp(rat(limit))
			got, e := copies.Apart([]api.Tally{a}, []api.Tally{b}, limit)
			expect(t, "Apart", got, e, order <= 0)
			if order == 0 {
				equal++
			}
			if f.Denom().BitLen() > 50 { // 10000 times that has more than 63
				great++
			}
		}
	}
	if equal < 50 || great < 50 {
		t.Errorf("%d limits are equal, %d terms are great", equal, great)
	}
}

// badLimits are limits that are not valid.
func badLimits() []copies.Chance {
	return []copies.Chance{{}, chance(1, 0), chance(0, -1), chance(-1, -1), chance(-1, 20), chance(2, 1), chance(21, 20), chance(1, 10001), chance(math.MinInt, 1), chance(1, math.MinInt), chance(math.MaxInt, math.MaxInt)}
}

// P9.2
func TestErrorsOfApart(t *testing.T) {
	limit, one := chance(1, 20), tally(5, 0)
	of := func(n int) []api.Tally { return slices.Repeat([]api.Tally{one}, n) }
	for _, x := range []struct{ a, b []api.Tally }{{nil, nil}, {of(1), nil}, {nil, of(1)}, {of(2), of(1)}, {of(1), of(2)}, {of(13), of(13)}, {of(12), of(13)}} {
		for _, l := range []copies.Chance{limit, {}} {
			got, e := copies.Apart(x.a, x.b, l)
			expectError(t, "Apart of wrong numbers of tallies", got, e, api.ErrTally)
		}
	}
	for _, bad := range badTallies() {
		// The first feature alone would tell them apart.
		a, b := append([]api.Tally{one}, bad[0]), append([]api.Tally{tally(0, 5)}, bad[1])
		got, e := copies.Apart(a, b, limit)
		expectError(t, "Apart of wrong tallies", got, e, api.ErrTally)
		got, e = copies.Apart(a, b, chance(2, 1))
		expectError(t, "Apart of wrong tallies with a wrong limit", got, e, api.ErrTally)
	}
	for _, bad := range badLimits() {
		got, e := copies.Apart(of(12), of(12), bad)
		expectError(t, "Apart with a wrong limit", got, e, api.ErrArg)
	}
}

// graph returns n copies of which just the named ones are apart; each two of them
// differ in a feature that the other copies do not have.
func graph(n int, apart ...[2]int) [][]api.Tally {
	all := make([][]api.Tally, n)
	for i := range all {
		all[i] = make([]api.Tally, max(1, len(apart)))
		for f, x := range apart {
			switch i {
			case x[0]:
				all[i][f] = tally(7, 0)
			case x[1]:
				all[i][f] = tally(0, 7)
			}
		}
	}
	return all
}

// P9.3
func TestHands(t *testing.T) {
	type pairs = [][2]int
	for _, x := range []struct {
		what   string
		copies [][]api.Tally
		want   []int
	}{
		{"the example", [][]api.Tally{{tally(5, 0)}, {tally(0, 5)}, {tally(5, 0)}, {tally(2, 2)}}, []int{0, 1, 0, 0}},
		{"no copies", nil, nil},
		{"one copy", graph(1), []int{0}},
		{"eight copies", graph(8), []int{0, 0, 0, 0, 0, 0, 0, 0}},
		{"two that are apart", graph(2, pairs{{1, 0}}...), []int{0, 1}},
		{"the last two", graph(4, pairs{{2, 3}}...), []int{0, 0, 0, 1}},
		{"a triangle", graph(4, pairs{{1, 2}, {2, 3}, {1, 3}}...), []int{0, 0, 1, 2}},
		{"a ring of five", graph(5, pairs{{0, 1}, {1, 2}, {2, 3}, {3, 4}, {4, 0}}...), []int{0, 1, 0, 1, 2}},
		// The lowest number for one copy after the other would take three scribes.
		{"a path", graph(4, pairs{{0, 2}, {2, 3}, {3, 1}}...), []int{0, 1, 1, 0}},
		{"a crown", graph(6, pairs{{0, 3}, {0, 5}, {2, 1}, {2, 5}, {4, 1}, {4, 3}}...), []int{0, 1, 0, 1, 0, 1}},
	} {
		got, e := copies.Hands(x.copies, chance(1, 20))
		expect(t, "Hands of "+x.what, got, e, x.want)
	}
	got, e := copies.Hands(slices.Repeat([][]api.Tally{{tally(1, 1)}}, 8), chance(1, 1))
	expect(t, "Hands of eight copies that are all apart", got, e, []int{0, 1, 2, 3, 4, 5, 6, 7})
	got, e = copies.Hands([][]api.Tally{{tally(1, 1)}}, chance(1, 1))
	expect(t, "Hands of one copy with the limit 1", got, e, []int{0})
	got, e = copies.Hands([][]api.Tally{{tally(40, 0)}, {tally(0, 20)}}, chance(1, 20))
	expect(t, "Hands of 40 and 20", got, e, []int{0, 1})
}

// apartOf returns which copies are apart.
func apartOf(t *testing.T, all [][]api.Tally, limit copies.Chance) [][2]int {
	t.Helper()
	var apart [][2]int
	for i := range all {
		for j := range i {
			is, e := copies.Apart(all[j], all[i], limit)
			if e != api.OK {
				t.Fatalf("Apart of %v and %v: %d", all[j], all[i], e)
			}
			if is {
				apart = append(apart, [2]int{j, i})
			}
		}
	}
	return apart
}

// P9.3: of all lists Hands finds the first one with the fewest scribes.
func TestHandsAsTold(t *testing.T) {
	d := dice(6)
	var fewest [api.MaxCopies + 1]int
	limit := chance(1, 20)
	for range 400 {
		n := d.below(api.MaxCopies + 1)
		all := d.features(n)
		if n > 1 && d.below(2) == 0 {
			var apart [][2]int
			for range d.below(api.MaxRows + 1) {
				i := d.below(n)
				apart = append(apart, [2]int{i, (i + 1 + d.below(n-1)) % n})
			}
			all = graph(n, apart...)
		}
		want := scribes(n, apartOf(t, all, limit))
		got, e := copies.Hands(all, limit)
		expect(t, "Hands", got, e, want)
		fewest[1+slices.Max(append(want, -1))]++
	}
	if slices.Min(fewest[:5]) < 5 {
		t.Errorf("0, 1, 2 .. scribes are the fewest for %v copies", fewest)
	}
}

// P9.3: the error is that of the first pair of copies that has one.
func TestErrorsOfHands(t *testing.T) {
	good, wrong := chance(1, 20), chance(2, 1)
	type tallies = []api.Tally
	few, many, some := tallies{tally(10, 0)}, tallies{tally(31, 0)}, tallies{tally(0, 30)}
	two := tallies{tally(1, 1), tally(1, 1)}
	for _, x := range []struct {
		what   string
		copies [][]api.Tally
		limit  copies.Chance
		want   api.Errno
	}{
		{"nine copies", slices.Repeat([][]api.Tally{few}, 9), good, api.ErrMany},
		{"nine copies without features and a wrong limit", make([][]api.Tally, 9), wrong, api.ErrMany},
		{"eight copies without features", make([][]api.Tally, 8), good, api.ErrTally},
		{"one copy without features", make([][]api.Tally, 1), good, api.ErrTally},
		{"one copy with 13 features", [][]api.Tally{make(tallies, 13)}, good, api.ErrTally},
		{"one copy with twice 31", [][]api.Tally{many}, good, api.ErrTally},
		{"one copy with less than nothing", [][]api.Tally{{tally(0, -1)}}, good, api.ErrTally},
		{"one copy and a wrong limit", [][]api.Tally{some}, wrong, api.ErrArg},
		{"one copy with twice 31 and a wrong limit", [][]api.Tally{many}, wrong, api.ErrTally},
		{"two copies and a wrong limit", [][]api.Tally{few, some}, wrong, api.ErrArg},
		{"a wrong limit before a wrong pair", [][]api.Tally{few, few, two}, wrong, api.ErrArg},
		{"a wrong pair before a wrong limit", [][]api.Tally{few, two, few}, wrong, api.ErrTally},
		{"the pair 0 and 2", [][]api.Tally{many, few, some}, good, api.ErrTally},
		{"the pair 1 and 2", [][]api.Tally{few, many, some}, good, api.ErrTally},
		{"the last pair of eight", append(slices.Repeat([][]api.Tally{few}, 6), many, some), good, api.ErrTally},
		{"other features in the last copy", append(slices.Repeat([][]api.Tally{few}, 7), two), good, api.ErrTally},
	} {
		got, e := copies.Hands(x.copies, x.limit)
		expectError(t, "Hands of "+x.what, got, e, x.want)
	}
	got, e := copies.Hands(nil, wrong)
	expect(t, "Hands of no copies, which have no pair", got, e, nil)
	for _, bad := range badLimits() {
		got, e := copies.Hands([][]api.Tally{few, few}, bad)
		expectError(t, "Hands with a wrong limit", got, e, api.ErrArg)
	}
}
