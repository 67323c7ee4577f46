package annals_test

import (
	"math"
	"slices"
	"testing"

	"ostracon/annals"
	"ostracon/api"
)

// kin returns people and their bonds.
func kin(people int, bonds ...api.Bond) api.Kin { return api.Kin{People: people, Bonds: bonds} }

// chain are n people, each the parent of the next one.
func chain(n int) api.Kin {
	k := kin(n)
	for child := 1; child < n; child++ {
		k.Bonds = append(k.Bonds, bond(child-1, child))
	}
	return k
}

// P11.13
func TestOrder(t *testing.T) {
	for _, c := range []struct {
		k    api.Kin
		want []int
	}{
		{kin(0), nil}, {kin(1), []int{0}}, {kin(4), []int{0, 1, 2, 3}},
		{kin(5, bond(4, 0), bond(4, 1), bond(1, 2)), []int{3, 4, 0, 1, 2}},
		{kin(3, bond(2, 1), bond(1, 0)), []int{2, 1, 0}},
		{kin(4, bond(3, 0), bond(2, 0)), []int{1, 2, 3, 0}},
		{kin(4, bond(1, 0), bond(3, 0)), []int{1, 2, 3, 0}},
		{kin(4, bond(0, 1), bond(0, 2), bond(1, 3), bond(2, 3)), []int{0, 1, 2, 3}},
		{kin(5, bond(3, 1), bond(3, 2), bond(4, 1)), []int{0, 3, 2, 4, 1}},
		{kin(3, bond(0, 2), bond(2, 1), bond(0, 1)), []int{0, 2, 1}},
	} {
		got, e := annals.Order(c.k)
		expect(t, "Order", got, e, c.want)
	}
}

// notKin are people and bonds with an error each.
func notKin() map[api.Errno][]api.Kin {
	manyBonds := kin(api.MaxPeople)
	for child := range 101 {
		manyBonds.Bonds = append(manyBonds.Bonds, bond(0, child), bond(0, child))
	}
	manyBonds.Bonds = manyBonds.Bonds[:api.MaxBonds+1]
	return map[api.Errno][]api.Kin{
		api.ErrMany: {kin(101), kin(math.MaxInt), manyBonds, kin(101, bond(0, 0)), {People: -1, Bonds: manyBonds.Bonds}},
		api.ErrKin: {
			kin(-1), kin(math.MinInt), kin(-1, bond(0, 1)), kin(0, bond(0, 1)), kin(1, bond(0, 0)), kin(3, bond(1, 1)), kin(3, bond(3, 1)), kin(3, bond(1, 3)), kin(3, bond(-1, 1)), kin(3, bond(1, -1)), kin(3, bond(math.MaxInt, math.MinInt)),
			kin(3, bond(0, 1), bond(0, 1)), kin(3, bond(0, 1), bond(1, 2), bond(0, 1)), kin(5, bond(0, 4), bond(1, 4), bond(2, 4)), kin(5, bond(0, 4), bond(1, 4), bond(1, 0), bond(2, 0), bond(3, 0)),
			kin(3, bond(0, 1), bond(1, 0), bond(2, 2)), kin(5, bond(0, 1), bond(1, 0), bond(2, 0), bond(3, 0)),
		},
		api.ErrConflict: {kin(2, bond(0, 1), bond(1, 0)), kin(5, bond(4, 0), bond(4, 1), bond(1, 2), bond(2, 4)), kin(3, bond(0, 1), bond(1, 2), bond(2, 0)), kin(4, bond(0, 1), bond(2, 3), bond(3, 2)), kin(3, bond(0, 2), bond(1, 2), bond(2, 1))},
	}
}

// P11.13 and P11.14
func TestKinErrors(t *testing.T) {
	for want, all := range notKin() {
		for _, k := range all {
			got, e := annals.Order(k)
			expectError(t, "Order", got, e, want)
			steps, e := kinship(k, 0, 1)
			expectError(t, "Kinship", steps, e, want)
			steps, e = kinship(k, -1, -1)
			expectError(t, "Kinship", steps, e, want)
		}
	}
	// As many people and bonds as there may be.
	k := kin(api.MaxPeople)
	for child := 2; child < api.MaxPeople; child++ {
		k.Bonds = append(k.Bonds, bond(child-1, child), bond(child-2, child))
	}
	k.Bonds = append(k.Bonds, bond(0, 1))
	var want []int
	for person := range api.MaxPeople {
		want = append(want, person)
	}
	got, e := annals.Order(k)
	expect(t, "Order", got, e, want)
	steps, e := kinship(k, 99, 0)
	expect(t, "Kinship", steps, e, span{50, 0})
	steps, e = kinship(chain(100), 0, 99)
	expect(t, "Kinship", steps, e, span{0, 99})
	// No people have 200 bonds without an error, but it is not that there are too many.
	k.Bonds = append(k.Bonds, k.Bonds[:3]...)
	got, e = annals.Order(k)
	expectError(t, "Order with 200 bonds", got, e, api.ErrKin)
	k.Bonds = append(k.Bonds, k.Bonds[0])
	got, e = annals.Order(k)
	expectError(t, "Order with 201 bonds", got, e, api.ErrMany)
}

// P11.14
func TestKinship(t *testing.T) {
	family := kin(5, bond(4, 0), bond(4, 1), bond(1, 2))
	// 1 and 2 are both children of 0; 3 is a child of 1, and 4 of 1 and 3; 5 is
	// alone, 6 is a child of 5 and 0.
	mixed := kin(7, bond(0, 1), bond(0, 2), bond(1, 3), bond(1, 4), bond(3, 4), bond(5, 6), bond(0, 6))
	for _, c := range []struct {
		k        api.Kin
		one, two int
		want     span
	}{
		{family, 0, 2, span{1, 2}}, {family, 2, 0, span{2, 1}}, {family, 4, 2, span{0, 2}}, {family, 2, 4, span{2, 0}}, {family, 0, 1, span{1, 1}}, {family, 3, 3, span{}}, {family, 2, 2, span{}},
		{mixed, 4, 3, span{1, 0}}, {mixed, 4, 1, span{1, 0}}, {mixed, 4, 2, span{2, 1}}, {mixed, 2, 4, span{1, 2}}, {mixed, 4, 6, span{2, 1}}, {mixed, 6, 5, span{1, 0}}, {mixed, 3, 4, span{0, 1}},
		// By 4 it is one step up and three down, by 5 two and two, by 6 three and one.
		{kin(12, bond(4, 0), bond(4, 2), bond(2, 3), bond(3, 1)), 0, 1, span{1, 3}},
		{kin(12, bond(4, 0), bond(4, 2), bond(2, 3), bond(3, 1), bond(6, 1), bond(6, 7), bond(7, 8), bond(8, 0)), 0, 1, span{1, 3}},
		{kin(12, bond(4, 0), bond(4, 2), bond(2, 3), bond(3, 1), bond(6, 1), bond(6, 7), bond(7, 8), bond(8, 0)), 1, 0, span{1, 3}},
		{kin(12, bond(2, 0), bond(5, 2), bond(5, 3), bond(3, 1), bond(6, 1), bond(6, 7), bond(7, 8), bond(8, 0)), 0, 1, span{2, 2}},
		{kin(12, bond(2, 0), bond(5, 2), bond(5, 3), bond(3, 1), bond(6, 1), bond(6, 7), bond(7, 8), bond(8, 0)), 1, 0, span{1, 3}},
	} {
		got, e := kinship(c.k, c.one, c.two)
		expect(t, "Kinship", got, e, c.want)
		if t.Failed() {
			t.Fatalf("%v", c)
		}
	}
	for _, c := range [][2]int{{3, 2}, {2, 3}, {3, 4}} {
		got, e := kinship(family, c[0], c[1])
		expectError(t, "Kinship", got, e, api.ErrNone)
	}
	got, e := kinship(mixed, 5, 4)
	expectError(t, "Kinship", got, e, api.ErrNone)
	for _, c := range [][2]int{{-1, 0}, {0, -1}, {5, 0}, {0, 5}, {5, 5}, {3, 5}, {math.MinInt, 3}, {3, math.MaxInt}} {
		got, e := kinship(family, c[0], c[1])
		expectError(t, "Kinship", got, e, api.ErrArg)
	}
	got, e = kinship(kin(0), 0, 0)
	expectError(t, "Kinship of nobody", got, e, api.ErrArg)
}

// P11.13
func TestOrderAsTold(t *testing.T) {
	d := dice(80)
	circles := 0
	for range 3000 {
		k := d.kin(5, 7)
		var want []int
		at := slices.IndexFunc(orders(k.People), func(order []int) bool { return descends(k, order) })
		got, e := annals.Order(k)
		if at < 0 {
			circles++
			expectError(t, "Order", got, e, api.ErrConflict)
			continue
		}
		want = orders(k.People)[at]
		expect(t, "Order", got, e, want)
		if t.Failed() {
			t.Fatalf("%v", k)
		}
	}
	if circles < 80 || circles > 1500 {
		t.Errorf("there are %d circles", circles)
	}
}

// P11.14
func TestKinshipAsTold(t *testing.T) {
	d := dice(81)
	seen := map[span]int{}
	strangers := 0
	for range 15000 {
		k := d.kin(8, 16)
		if _, e := annals.Order(k); e != api.OK || k.People == 0 {
			continue
		}
		one, two := d.below(k.People), d.below(k.People)
		got, e := kinship(k, one, two)
		want, ok := related(k, one, two)
		if !ok {
			strangers++
			expectError(t, "Kinship", got, e, api.ErrNone)
			continue
		}
		seen[want]++
		expect(t, "Kinship", got, e, want)
		if t.Failed() {
			t.Fatalf("%d and %d of %v", one, two, k)
		}
	}
	if strangers < 300 || seen[span{1, 1}] < 50 || seen[span{1, 2}] < 20 || seen[span{2, 1}] < 20 || seen[span{3, 0}] < 10 {
		t.Errorf("%d are strangers, the others %v", strangers, seen)
	}
}

// P11.13: the order of many people.
func TestOrderOfMany(t *testing.T) {
	d := dice(82)
	seen := 0
	for range 500 {
		k := d.kin(api.MaxPeople, api.MaxBonds)
		order, e := annals.Order(k)
		if e == api.ErrConflict {
			continue
		}
		seen++
		all := slices.Sorted(slices.Values(order))
		for i, person := range all {
			if person != i {
				t.Fatalf("Order of %v has not all people: %v", k, order)
			}
		}
		if e != api.OK || len(all) != k.People || !descends(k, order) {
			t.Fatalf("Order of %v = %v, %d", k, order, e)
		}
		// Whoever comes later with a lower number waits for a parent.
		for i, person := range order {
			for _, later := range order[i+1:] {
				waits := slices.ContainsFunc(k.Bonds, func(b api.Bond) bool { return b.Child == later && !slices.Contains(order[:i], b.Parent) })
				if later < person && !waits {
					t.Fatalf("Order of %v has %d before %d", k, person, later)
				}
			}
		}
	}
	if seen < 100 {
		t.Errorf("only %d orders are seen", seen)
	}
}
