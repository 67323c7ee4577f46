package annals_test

import (
	"math"
	"slices"
	"testing"

	"ostracon/annals"
	"ostracon/api"
)

// third is the example with a third fact, with which it is not sound.
func third() api.Annals { return plus(example(), fact(0, 2, 8, 9)) }

// P11.2
func TestSound(t *testing.T) {
	for _, c := range []struct {
		a    api.Annals
		want bool
	}{
		{api.Annals{}, true}, {crowd(1, 0, 0), true}, {example(), true}, {third(), false}, {crowd(60, 200, 30), true},
		{plus(example(), fact(0, 2, 7, 9)), true}, {plus(example(), fact(0, 2, 0, 5)), true}, {plus(example(), fact(0, 2, 0, 4)), false}, {plus(example(), fact(2, 0, -7, -5)), true}, {plus(example(), fact(2, 0, -4, 9)), false},
		{plus(example(), fact(0, 1, 6, 6)), false}, {plus(example(), fact(1, 0, -2, 0)), false},
		// The years from -10000 to 10000 have room for twice 10000 years, and no more.
		{plus(crowd(4, 0, 0), fact(0, 1, 10000, 10000), fact(1, 2, 10000, 10000)), true},
		{plus(crowd(4, 0, 0), fact(0, 1, 10000, 10000), fact(1, 2, 10000, 10000), fact(2, 3, 0, 0)), true},
		{plus(crowd(4, 0, 0), fact(0, 1, 10000, 10000), fact(1, 2, 10000, 10000), fact(2, 3, 1, 1)), false},
		{plus(crowd(4, 0, 0), fact(0, 1, 10000, 10000), fact(1, 2, 10000, 10000), fact(3, 0, 1, 1)), false},
	} {
		got, e := annals.Sound(c.a)
		expect(t, "Sound", got, e, c.want)
	}
}

// P11.2
func TestHolds(t *testing.T) {
	a := example()
	for _, years := range [][]int{{10, 14, 16}, {10, 13, 15}, {10, 15, 17}, {-10000, -9995, -9993}, {9995, 9998, 10000}, {-3, 0, 2}} {
		at, e := annals.Holds(a, years)
		expect(t, "Holds", at, e, 0)
	}
	for _, c := range []struct {
		years []int
		at    int
	}{
		{[]int{10, 16, 18}, 0}, {[]int{10, 12, 14}, 0}, {[]int{10, 14, 17}, 1}, {[]int{10, 14, 15}, 1}, {[]int{10, 16, 16}, 0}, {[]int{14, 10, 8}, 0}, {[]int{-10000, 10000, 10000}, 0}, {[]int{0, 3, 10000}, 1},
	} {
		at, e := annals.Holds(a, c.years)
		if at != c.at || e != api.ErrConflict {
			t.Errorf("Holds of %v = %d, %d, want %d", c.years, at, e, c.at)
		}
	}
	at, e := annals.Holds(third(), []int{10, 14, 16})
	if at != 2 || e != api.ErrConflict {
		t.Errorf("Holds = %d, %d", at, e)
	}
	for _, years := range [][]int{nil, {}, {10}, {10, 14}, {10, 14, 16, 16}, {10, 14, 10001}, {-10001, 14, 16}, {10, math.MaxInt, 16}, {math.MinInt, 14, 16}, {10, 16, 10001}} {
		at, e := annals.Holds(a, years)
		expectError(t, "Holds", at, e, api.ErrArg)
	}
	at, e = annals.Holds(api.Annals{}, nil)
	expect(t, "Holds of nothing", at, e, 0)
	at, e = annals.Holds(api.Annals{}, []int{0})
	expectError(t, "Holds of a year too many", at, e, api.ErrArg)
}

// P11.2
func TestHoldsAsTold(t *testing.T) {
	d := dice(30)
	failed := map[int]int{}
	for range 3000 {
		a := d.annals(5, 6)
		years := make([]int, len(a.Points))
		for p := range years {
			years[p] = d.between(-20, 20)
		}
		if is, ok := raised(first(len(a.Points)), claims(a)...); ok && d.below(3) > 0 && len(is) > 0 {
			years = is
			years[d.below(len(is))] += d.below(3)
		}
		at, e := annals.Holds(a, years)
		want := satisfied(a, years)
		if want == len(a.Facts) {
			expect(t, "Holds", at, e, 0)
			failed[-1]++
			continue
		}
		if failed[want]++; at != want || e != api.ErrConflict {
			t.Errorf("Holds of %v and %v = %d, %d, want %d", a, years, at, e, want)
		}
	}
	if failed[-1] < 300 || failed[0] < 300 || failed[1] < 100 || failed[3] < 10 {
		t.Errorf("Holds fails at %v", failed)
	}
}

// P11.3
func TestEarliestAndLatest(t *testing.T) {
	for _, c := range []struct {
		a                api.Annals
		earliest, latest []int
	}{
		{api.Annals{}, nil, nil},
		{crowd(2, 0, 0), []int{-10000, -10000}, []int{10000, 10000}},
		{example(), []int{-10000, -9997, -9995}, []int{9995, 9998, 10000}},
		{plus(crowd(3, 0, 0), fact(1, 0, -7, -4)), []int{-10000, -9996, -10000}, []int{9996, 10000, 10000}},
		{plus(crowd(3, 0, 0), fact(0, 1, 10000, 10000), fact(1, 2, 10000, 10000)), []int{-10000, 0, 10000}, []int{-10000, 0, 10000}},
		{plus(crowd(3, 0, 0), fact(0, 1, 9999, 10000), fact(2, 1, -10000, -9998)), []int{-10000, -1, 9997}, []int{-9997, 2, 10000}},
	} {
		got, e := annals.Earliest(c.a)
		expect(t, "Earliest", got, e, c.earliest)
		got, e = annals.Latest(c.a)
		expect(t, "Latest", got, e, c.latest)
	}
	got, e := annals.Earliest(third())
	expectError(t, "Earliest", got, e, api.ErrConflict)
	got, e = annals.Latest(third())
	expectError(t, "Latest", got, e, api.ErrConflict)
}

// P11.4
func TestBetween(t *testing.T) {
	a := example()
	for _, c := range []struct {
		from, to int
		want     span
	}{
		{0, 2, span{5, 7}}, {2, 0, span{-7, -5}}, {0, 1, span{3, 5}}, {1, 2, span{2, 2}}, {0, 0, span{}}, {2, 2, span{}},
	} {
		got, e := between(a, c.from, c.to)
		expect(t, "Between", got, e, c.want)
	}
	// A point that no fact says anything of can be in any year.
	a.Points = append(a.Points, "s")
	for _, c := range []struct {
		from, to int
		want     span
	}{
		{3, 3, span{}}, {0, 3, span{-19995, 20000}}, {3, 2, span{-19995, 20000}}, {1, 3, span{-19998, 19997}}, {3, 1, span{-19997, 19998}},
	} {
		got, e := between(a, c.from, c.to)
		expect(t, "Between", got, e, c.want)
	}
	for _, c := range [][2]int{{-1, 0}, {0, -1}, {4, 0}, {0, 4}, {-1, -1}, {4, 4}, {math.MinInt, 0}, {0, math.MaxInt}} {
		got, e := between(a, c[0], c[1])
		expectError(t, "Between", got, e, api.ErrArg)
		got, e = between(broken(api.ErrConflict), c[0], c[1])
		expectError(t, "Between of no solution", got, e, api.ErrArg)
	}
	got, e := between(third(), 0, 1)
	expectError(t, "Between", got, e, api.ErrConflict)
	got, e = between(third(), 1, 1)
	expectError(t, "Between", got, e, api.ErrConflict)
	got, e = between(api.Annals{}, 0, 0)
	expectError(t, "Between of nothing", got, e, api.ErrArg)
}

// P11.2 to P11.4: all solutions say the same.
func TestDatesOfAllSolutions(t *testing.T) {
	d := dice(31)
	unsound := 0
	for range 1500 {
		a := d.framed()
		all := solutions(a)
		is, e := annals.Sound(a)
		expect(t, "Sound", is, e, len(all) > 0)
		earliest, e := annals.Earliest(a)
		latest, e2 := annals.Latest(a)
		if len(all) == 0 {
			unsound++
			expectError(t, "Earliest", earliest, e, api.ErrConflict)
			expectError(t, "Latest", latest, e2, api.ErrConflict)
			continue
		}
		least, most := slices.Clone(all[0]), slices.Clone(all[0])
		for _, dates := range all {
			for p, year := range dates {
				least[p], most[p] = min(least[p], year), max(most[p], year)
			}
		}
		expect(t, "Earliest", earliest, e, least)
		expect(t, "Latest", latest, e2, most)
		from, to := d.below(6), d.below(6)
		want := span{math.MaxInt, math.MinInt}
		for _, dates := range all {
			n := dates[to] - dates[from]
			want = span{min(want.Low, n), max(want.High, n)}
		}
		got, e := between(a, from, to)
		expect(t, "Between", got, e, want)
		if t.Failed() {
			t.Fatalf("%v", a)
		}
	}
	if unsound < 300 || unsound > 1000 {
		t.Errorf("%d annals are not sound", unsound)
	}
}

// P11.2 to P11.4: bounds are those of dates that are raised until they agree.
func TestDatesAsTold(t *testing.T) {
	d := dice(32)
	unsound := 0
	for range 1500 {
		a := d.annals(6, 9)
		want, ok := raised(first(len(a.Points)), claims(a)...)
		is, e := annals.Sound(a)
		expect(t, "Sound", is, e, ok)
		got, e := annals.Earliest(a)
		if !ok {
			unsound++
			expectError(t, "Earliest", got, e, api.ErrConflict)
			continue
		}
		expect(t, "Earliest", got, e, want)
		if len(a.Points) == 0 {
			continue
		}
		from, to := d.below(len(a.Points)), d.below(len(a.Points))
		bounds, e := between(a, from, to)
		expect(t, "Between", bounds, e, span{-most(a, to, from), most(a, from, to)})
		latest, e := annals.Latest(a)
		last := greatest(-api.MaxYear, api.MaxYear, func(n int) bool {
			years := first(len(a.Points))
			years[to] = n
			_, ok := raised(years, claims(a)...)
			return ok
		})
		if e != api.OK || len(latest) != len(a.Points) || latest[to] != last {
			t.Errorf("Latest = %v, %d, want %d at %d", latest, e, last, to)
		}
		if t.Failed() {
			t.Fatalf("%v", a)
		}
	}
	if unsound < 150 || unsound > 1000 {
		t.Errorf("%d annals are not sound", unsound)
	}
}

// P11.2: many facts that conflict in many ways.
func TestSoundOfManyConflicts(t *testing.T) {
	d := dice(33)
	unsound := 0
	for range 40 {
		a := crowd(api.MaxPoints, 0, 0)
		for len(a.Facts) < api.MaxFacts {
			from, to := d.two(len(a.Points))
			low := d.between(-api.MaxYear, api.MaxYear)
			a.Facts = append(a.Facts, fact(from, to, low, low))
		}
		a.Facts = a.Facts[:d.between(0, api.MaxFacts)]
		want := sound(a)
		if !want {
			unsound++
		}
		is, e := annals.Sound(a)
		expect(t, "Sound", is, e, want)
	}
	if unsound < 20 {
		t.Errorf("only %d annals are not sound", unsound)
	}
	// All points are a year after all others.
	for points := range api.MaxPoints - 1 {
		a := crowd(points+2, 0, 0)
		for p := range a.Points {
			for q := range min(p, 3) {
				a.Facts = append(a.Facts, fact(p, p-1-q, api.MaxYear, api.MaxYear), fact(p-1-q, p, api.MaxYear, api.MaxYear))
			}
		}
		a.Facts = a.Facts[:min(len(a.Facts), api.MaxFacts)]
		is, e := annals.Sound(a)
		expect(t, "Sound of circles", is, e, false)
	}
}
