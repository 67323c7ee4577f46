package annals_test

import (
	"math"
	"slices"
	"testing"

	"ostracon/annals"
	"ostracon/api"
)

// P11.5
func TestConflict(t *testing.T) {
	fourth := plus(third(), fact(1, 2, 7, 7))
	for _, c := range []struct {
		a    api.Annals
		want []int
	}{
		{third(), []int{0, 1, 2}},
		{fourth, []int{1, 3}},
		{plus(fourth, fact(2, 1, 0, 0)), []int{3, 4}},
		{plus(fourth, fact(2, 1, -7, -7)), []int{1, 4}},
		{plus(example(), fact(0, 1, 6, 6)), []int{0, 2}},
		{plus(example(), fact(0, 1, 4, 4), fact(0, 1, 5, 5), fact(1, 0, -4, -4)), []int{3, 4}},
		{plus(crowd(3, 0, 0), fact(0, 1, 1, 1), fact(1, 0, 1, 1), fact(1, 2, 1, 2), fact(2, 1, 1, 2)), []int{2, 3}},
		// Facts that the years from -10000 to 10000 have no room for.
		{plus(crowd(4, 0, 0), fact(2, 3, 5, 5), fact(0, 1, 9999, 9999), fact(1, 2, 9999, 9999)), []int{0, 1, 2}},
		{plus(crowd(4, 0, 0), fact(2, 3, 2, 5), fact(0, 1, 9999, 9999), fact(1, 2, 9999, 9999), fact(1, 2, 10000, 10000)), []int{2, 3}},
	} {
		got, e := annals.Conflict(c.a)
		expect(t, "Conflict", got, e, c.want)
	}
	for _, a := range []api.Annals{{}, crowd(1, 0, 0), example(), crowd(60, 200, 30), plus(example(), fact(0, 2, 5, 5))} {
		got, e := annals.Conflict(a)
		expectError(t, "Conflict of sound annals", got, e, api.ErrNone)
	}
}

// P11.5
func TestConflictAsTold(t *testing.T) {
	d := dice(40)
	sizes := map[int]int{}
	for range 3000 {
		a := d.annals(6, 12)
		got, e := annals.Conflict(a)
		if sound(a) {
			expectError(t, "Conflict of sound annals", got, e, api.ErrNone)
			continue
		}
		expect(t, "Conflict", got, e, stay(a))
		sizes[len(got)]++
		if t.Failed() {
			t.Fatalf("%v", a)
		}
	}
	if sizes[2] < 50 || sizes[3] < 50 || sizes[4] < 20 {
		t.Errorf("conflicts have the sizes %v", sizes)
	}
}

// P11.6
func TestWhy(t *testing.T) {
	a := plus(example(), fact(0, 2, -3, 9), fact(1, 0, -6, 0), fact(2, 0, -7, 10))
	unsound := plus(third(), fact(1, 2, 7, 7))
	for _, c := range []struct {
		a              api.Annals
		from, to, high int
		want           []int
	}{
		{example(), 0, 2, 7, []int{0, 1}},
		{example(), 0, 2, 8, []int{0, 1}},
		{example(), 0, 2, 20000, nil},
		{example(), 0, 1, 5, []int{0}},
		{example(), 0, 1, 19997, []int{0}},
		{example(), 0, 1, 19998, []int{1}}, // r is in the year 10000 at the latest
		{example(), 1, 0, -3, []int{0}},
		{example(), 1, 0, -2, []int{0}},
		{example(), 2, 0, -5, []int{0, 1}},
		{example(), 1, 2, 2, []int{1}},
		{example(), 2, 1, -2, []int{1}},
		{example(), 1, 1, 0, nil},
		{example(), 1, 1, 20000, nil},
		// Of facts that prove the same the last ones stay.
		{a, 0, 2, 7, []int{4}},
		{a, 0, 2, 8, []int{4}},
		{a, 0, 2, 9, []int{4}},
		{a, 0, 1, 5, []int{1, 4}},
		{a, 0, 1, 6, []int{3}},
		{a, 2, 0, -5, []int{0, 1}},
		{a, 2, 0, 3, []int{2}},
		// Facts without a solution prove everything.
		{unsound, 0, 2, -20000, []int{1, 3}},
		{unsound, 0, 2, 6, []int{1, 3}},
		{unsound, 0, 2, 9, []int{2}},
		{unsound, 0, 0, -1, []int{1, 3}},
		{unsound, 0, 0, 0, nil},
		// With the years from -10000 to 10000 one fact proves something of other points too.
		{plus(crowd(4, 0, 0), fact(0, 1, 9000, 10000)), 2, 0, 11000, []int{0}},
		{plus(crowd(4, 0, 0), fact(0, 1, 9000, 10000)), 2, 1, 20000, nil},
		{plus(crowd(4, 0, 0), fact(0, 1, 9000, 10000)), 1, 2, 11000, []int{0}},
		{plus(crowd(4, 0, 0), fact(0, 1, 9000, 10000), fact(2, 3, 8000, 8000)), 1, 2, 3000, []int{0, 1}},
	} {
		got, e := annals.Why(c.a, c.from, c.to, c.high)
		expect(t, "Why", got, e, c.want)
		if t.Failed() {
			t.Fatalf("%v", c)
		}
	}
}

// P11.6
func TestWhyErrors(t *testing.T) {
	none := plus(third(), fact(1, 2, 7, 7))
	for _, a := range []api.Annals{example(), none, crowd(3, 0, 0)} {
		for _, c := range [][3]int{{-1, 0, 5}, {0, -1, 5}, {3, 0, 5}, {0, 3, 5}, {3, 3, 20000}, {0, 1, 20001}, {0, 1, -20001}, {1, 1, 20001}, {0, 1, math.MaxInt}, {0, 1, math.MinInt}, {math.MinInt, math.MaxInt, 0}} {
			got, e := annals.Why(a, c[0], c[1], c[2])
			expectError(t, "Why", got, e, api.ErrArg)
		}
	}
	for _, c := range [][3]int{{0, 2, 6}, {0, 2, -20000}, {0, 1, 4}, {1, 0, -4}, {2, 0, -6}, {1, 1, -1}, {1, 1, -20000}, {1, 2, 1}} {
		got, e := annals.Why(example(), c[0], c[1], c[2])
		expectError(t, "Why", got, e, api.ErrNone)
	}
	got, e := annals.Why(crowd(3, 0, 0), 0, 1, 19999)
	expectError(t, "Why without facts", got, e, api.ErrNone)
	got, e = annals.Why(crowd(3, 0, 0), 0, 1, 20000)
	expect(t, "Why without facts", got, e, nil)
}

// P11.6
func TestWhyAsTold(t *testing.T) {
	d := dice(41)
	sizes := map[int]int{}
	for range 3000 {
		a := d.annals(6, 10)
		if len(a.Points) == 0 {
			continue
		}
		from, to := d.below(len(a.Points)), d.below(len(a.Points))
		high := d.between(-20, 20)
		if sound(a) {
			high = most(a, from, to)
			if d.below(4) == 0 {
				high = min(high+d.below(10), 20000)
			}
		}
		got, e := annals.Why(a, from, to, high)
		beyond := claim{from, to, high + 1}
		if sound(a, beyond) {
			t.Fatalf("%v do not prove %v", a, beyond)
		}
		expect(t, "Why", got, e, stay(a, beyond))
		if sizes[len(got)]++; sound(a) && high == most(a, from, to) && high > -20000 {
			got, e = annals.Why(a, from, to, high-1)
			expectError(t, "Why of less", got, e, api.ErrNone)
		}
		if t.Failed() {
			t.Fatalf("%v from %d to %d at most %d", a, from, to, high)
		}
	}
	if sizes[0] < 300 || sizes[1] < 300 || sizes[2] < 200 || sizes[3] < 50 || sizes[4] < 10 {
		t.Errorf("proofs have the sizes %v", sizes)
	}
}

// P11.16
func TestFactsOfConflictAlone(t *testing.T) {
	d := dice(42)
	seen := 0
	for range 1500 {
		a := d.annals(20, 60)
		facts, e := annals.Conflict(a)
		if is, _ := annals.Sound(a); is {
			expectError(t, "Conflict of sound annals", facts, e, api.ErrNone)
			continue
		}
		seen++
		if is, e := annals.Sound(only(a, facts)); is || e != api.OK || !slices.IsSorted(facts) {
			t.Fatalf("%v of %v are sound", facts, a)
		}
		for i := range facts {
			if is, e := annals.Sound(only(a, without(facts, i))); !is || e != api.OK {
				t.Fatalf("%v of %v are not sound without the fact %d", facts, a, facts[i])
			}
		}
	}
	if seen < 300 {
		t.Errorf("only %d annals are not sound", seen)
	}
}

// P11.16
func TestFactsOfWhyAlone(t *testing.T) {
	d := dice(43)
	seen := 0
	for range 1500 {
		a := d.annals(12, 40)
		if len(a.Points) == 0 {
			continue
		}
		from, to := d.below(len(a.Points)), d.below(len(a.Points))
		bounds, e := between(a, from, to)
		if e != api.OK {
			continue
		}
		facts, e := annals.Why(a, from, to, bounds.High)
		if e != api.OK || !slices.IsSorted(facts) {
			t.Fatalf("Why of %v from %d to %d = %v, %d", a, from, to, facts, e)
		}
		if all, e := between(only(a, facts), from, to); e != api.OK || all.High > bounds.High {
			t.Fatalf("%v of %v do not prove %d years", facts, a, bounds.High)
		}
		for i := range facts {
			seen++
			if fewer, e := between(only(a, without(facts, i)), from, to); e != api.OK || fewer.High <= bounds.High {
				t.Fatalf("%v of %v prove %d years without the fact %d", facts, a, bounds.High, facts[i])
			}
		}
	}
	if seen < 500 {
		t.Errorf("only %d facts are needed", seen)
	}
}
