package annals_test

import (
	"math"
	"slices"
	"testing"

	"ostracon/annals"
	"ostracon/api"
)

// P11.7
func TestMeet(t *testing.T) {
	a := example()
	a.Points = append(a.Points, "s")
	a.Reigns = append(a.Reigns, reign("M", 0, 2), reign("N", 3, 1), reign("O", 2, 0), reign("P", 3, 0))
	// K is from p to q, L from q to r, M from p to r, N from s to q, O from r back to
	// p, and P from s to p.
	for _, c := range []struct{ one, two, want int }{
		{0, 0, 2}, {1, 1, 2}, {2, 2, 2}, {0, 1, 0}, {0, 2, 2}, {1, 2, 2}, {0, 3, 1}, {1, 3, 0}, {2, 3, 1}, {3, 3, 1}, {4, 4, 0}, {0, 4, 0}, {2, 4, 0}, {3, 4, 0}, {5, 0, 0}, {5, 3, 1}, {5, 5, 1},
	} {
		got, e := annals.Meet(a, c.one, c.two)
		expect(t, "Meet", got, e, c.want)
		got, e = annals.Meet(a, c.two, c.one)
		expect(t, "Meet the other way", got, e, c.want)
		if t.Failed() {
			t.Fatalf("%v", c)
		}
	}
	// With s a year before q, N is in the last year of K, or it is s that is not before p.
	must := plus(a, fact(3, 1, 1, 1))
	got, e := annals.Meet(must, 0, 3)
	expect(t, "Meet", got, e, 2)
	got, e = annals.Meet(plus(a, fact(3, 1, 0, 1)), 0, 3)
	expect(t, "Meet", got, e, 1)
	got, e = annals.Meet(plus(a, fact(3, 1, 0, 0)), 0, 3)
	expect(t, "Meet", got, e, 0)
	for _, c := range [][2]int{{-1, 0}, {0, -1}, {6, 0}, {0, 6}, {6, 6}, {math.MinInt, 0}, {0, math.MaxInt}} {
		got, e := annals.Meet(a, c[0], c[1])
		expectError(t, "Meet", got, e, api.ErrArg)
		got, e = annals.Meet(plus(a, fact(0, 2, 9, 9)), c[0], c[1])
		expectError(t, "Meet of no solution", got, e, api.ErrArg)
	}
	got, e = annals.Meet(plus(a, fact(0, 2, 9, 9)), 0, 1)
	expectError(t, "Meet", got, e, api.ErrConflict)
	got, e = annals.Meet(third(), 0, 0)
	expectError(t, "Meet", got, e, api.ErrConflict)
}

// P11.7: Meet looks at how the reigns are in all solutions.
func TestMeetInAllSolutions(t *testing.T) {
	d := dice(50)
	seen := map[int]int{}
	for range 2500 {
		a := d.framed()
		all := solutions(a)
		one, two := d.below(len(a.Reigns)), d.below(len(a.Reigns))
		got, e := annals.Meet(a, one, two)
		if len(all) == 0 {
			expectError(t, "Meet", got, e, api.ErrConflict)
			continue
		}
		x, y := a.Reigns[one], a.Reigns[two]
		meet := 0
		for _, dates := range all {
			if dates[x.Start] < dates[y.End] && dates[y.Start] < dates[x.End] {
				meet++
			}
		}
		want := 1
		if meet == 0 {
			want = 0
		}
		if meet == len(all) {
			want = 2
		}
		seen[want]++
		expect(t, "Meet", got, e, want)
		if t.Failed() {
			t.Fatalf("%v and %v of %v", x, y, a)
		}
	}
	if seen[0] < 200 || seen[1] < 200 || seen[2] < 100 {
		t.Errorf("reigns meet %v", seen)
	}
}

// P11.7: the same by claims, over all years.
func TestMeetAsTold(t *testing.T) {
	d := dice(51)
	seen := map[int]int{}
	for range 2500 {
		a := d.annals(6, 9)
		if len(a.Reigns) == 0 {
			continue
		}
		one, two := d.below(len(a.Reigns)), d.below(len(a.Reigns))
		x, y := a.Reigns[one], a.Reigns[two]
		got, e := annals.Meet(a, one, two)
		if !sound(a) {
			expectError(t, "Meet", got, e, api.ErrConflict)
			continue
		}
		want := 1
		if !sound(a, claim{x.Start, y.End, 1}, claim{y.Start, x.End, 1}) {
			want = 0
		} else if !sound(a, claim{y.End, x.Start, 0}) && !sound(a, claim{x.End, y.Start, 0}) {
			want = 2
		}
		seen[want]++
		expect(t, "Meet", got, e, want)
		if t.Failed() {
			t.Fatalf("%v and %v of %v", x, y, a)
		}
	}
	if seen[0] < 200 || seen[1] < 200 || seen[2] < 50 {
		t.Errorf("reigns meet %v", seen)
	}
}

// P11.8
func TestRegnal(t *testing.T) {
	a, years := example(), []int{10, 14, 16}
	a.Reigns = append(a.Reigns, reign("M", 0, 2), reign("N", 1, 0))
	for year, want := range map[int][]api.Regnal{
		9:  nil,
		10: {{Reign: 0, Year: 1}, {Reign: 2, Year: 1}},
		12: {{Reign: 0, Year: 3}, {Reign: 2, Year: 3}},
		13: {{Reign: 0, Year: 4}, {Reign: 2, Year: 4}},
		14: {{Reign: 1, Year: 1}, {Reign: 2, Year: 5}},
		15: {{Reign: 1, Year: 2}, {Reign: 2, Year: 6}},
		16: nil, -10: nil, 10001: nil, math.MinInt: nil, math.MaxInt: nil,
	} {
		got, e := annals.Regnal(a, years, year)
		expect(t, "Regnal", got, e, want)
	}
	got, e := annals.Regnal(example(), []int{-10, -6, -4}, -6)
	expect(t, "Regnal", got, e, []api.Regnal{{Reign: 1, Year: 1}})
	got, e = annals.Regnal(example(), []int{-4, -1, 1}, 0)
	expect(t, "Regnal", got, e, []api.Regnal{{Reign: 1, Year: 2}})
	got, e = annals.Regnal(api.Annals{}, nil, 0)
	expect(t, "Regnal of nothing", got, e, nil)
	for want, years := range map[api.Errno][][]int{
		api.ErrArg:      {nil, {10, 14}, {10, 14, 16, 18}, {10, 14, 10001}, {-10001, 14, 16}},
		api.ErrConflict: {{10, 16, 18}, {10, 14, 17}},
	} {
		for _, years := range years {
			got, e := annals.Regnal(a, years, 12)
			expectError(t, "Regnal", got, e, want)
			year, e := annals.Dated(a, years, api.Regnal{Reign: 0, Year: 1})
			expectError(t, "Dated", year, e, want)
			year, e = annals.Dated(a, years, api.Regnal{Reign: -1, Year: -1})
			expectError(t, "Dated", year, e, want)
		}
	}
}

// P11.8
func TestDated(t *testing.T) {
	a, years := example(), []int{10, 14, 16}
	a.Reigns = append(a.Reigns, reign("M", 0, 2), reign("N", 1, 0))
	for d, want := range map[api.Regnal]int{
		{Reign: 0, Year: 1}: 10, {Reign: 0, Year: 4}: 13, {Reign: 1, Year: 1}: 14, {Reign: 1, Year: 2}: 15, {Reign: 2, Year: 6}: 15,
	} {
		got, e := annals.Dated(a, years, d)
		expect(t, "Dated", got, e, want)
	}
	for _, d := range []api.Regnal{
		{Reign: 0, Year: 5}, {Reign: 0, Year: 0}, {Reign: 0, Year: -1}, {Reign: 1, Year: 3}, {Reign: 2, Year: 7}, {Reign: 3, Year: 1}, {Reign: 3, Year: 0}, {Reign: 3, Year: -3}, {Reign: 3, Year: -4},
		{Reign: -1, Year: 1}, {Reign: 4, Year: 1}, {Reign: math.MinInt, Year: 1}, {Reign: math.MaxInt, Year: 1}, {Reign: 0, Year: math.MinInt}, {Reign: 0, Year: math.MaxInt},
	} {
		got, e := annals.Dated(a, years, d)
		expectError(t, "Dated", got, e, api.ErrArg)
	}
	got, e := annals.Dated(a, []int{-4, -1, 1}, api.Regnal{Reign: 2, Year: 5})
	expect(t, "Dated", got, e, 0)
}

// P11.8: Regnal lists exactly the years of reigns that Dated says are the year.
func TestRegnalAndDated(t *testing.T) {
	d := dice(52)
	seen := 0
	for range 2000 {
		a := d.annals(5, 4)
		years, ok := raised(first(len(a.Points)), claims(a)...)
		if !ok || len(a.Reigns) == 0 {
			continue
		}
		r := a.Reigns[d.below(len(a.Reigns))]
		year := years[r.Start] + d.between(-1, 3)
		if d.below(3) == 0 {
			year = years[r.End] - d.below(3)
		}
		got, e := annals.Regnal(a, years, year)
		var want []api.Regnal
		for i, r := range a.Reigns {
			for n, y := 1, years[r.Start]; y < years[r.End]; n, y = n+1, y+1 {
				if y == year {
					want = append(want, api.Regnal{Reign: i, Year: n})
				}
			}
		}
		expect(t, "Regnal", got, e, want)
		for i := range a.Reigns {
			for n := -1; n < 5; n++ {
				x := api.Regnal{Reign: i, Year: n}
				back, e := annals.Dated(a, years, x)
				if is := e == api.OK && back == year; is != slices.Contains(want, x) {
					t.Fatalf("Dated of %v with %v = %d, %d", x, years, back, e)
				}
			}
		}
		for _, x := range want {
			seen++
			back, e := annals.Dated(a, years, x)
			expect(t, "Dated of Regnal", back, e, year)
		}
	}
	if seen < 300 {
		t.Errorf("only %d years of reigns are seen", seen)
	}
}
