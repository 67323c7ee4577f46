package annals_test

import (
	"reflect"
	"slices"
	"strconv"
	"testing"

	"ostracon/annals"
	"ostracon/api"
)

func fact(from, to, low, high int) api.Fact {
	return api.Fact{From: from, To: to, Low: low, High: high}
}

func reign(king string, start, end int) api.Reign {
	return api.Reign{King: king, Start: start, End: end}
}

func bond(parent, child int) api.Bond { return api.Bond{Parent: parent, Child: child} }

// example are the annals of the chapter's section Examples, with a second reign.
func example() api.Annals {
	return api.Annals{
		Points: []string{"p", "q", "r"},
		Facts:  []api.Fact{fact(0, 1, 3, 5), fact(1, 2, 2, 2)},
		Reigns: []api.Reign{reign("K", 0, 1), reign("L", 1, 2)},
	}
}

// names are n names of points.
func names(n int) []string {
	var all []string
	for i := range n {
		all = append(all, "p"+strconv.Itoa(i))
	}
	return all
}

// plus returns annals with more facts, in new memory.
func plus(a api.Annals, facts ...api.Fact) api.Annals {
	a.Facts = slices.Concat(a.Facts, facts)
	return a
}

// only returns annals with some of their facts alone.
func only(a api.Annals, keep []int) api.Annals {
	var facts []api.Fact
	for _, i := range keep {
		facts = append(facts, a.Facts[i])
	}
	a.Facts = facts
	return a
}

// without returns numbers without the one at a place.
func without(numbers []int, at int) []int {
	return slices.Delete(slices.Clone(numbers), at, at+1)
}

// same reports whether two values are equal; nil lists equal empty ones.
func same(x, y any) bool { return sameValue(reflect.ValueOf(x), reflect.ValueOf(y)) }

func sameValue(x, y reflect.Value) bool {
	switch x.Kind() {
	case reflect.Interface:
		return sameValue(x.Elem(), y.Elem())
	case reflect.Slice:
		equal := x.Len() == y.Len()
		for i := 0; equal && i < x.Len(); i++ {
			equal = sameValue(x.Index(i), y.Index(i))
		}
		return equal
	case reflect.Struct:
		equal := true
		for i := 0; equal && i < x.NumField(); i++ {
			equal = sameValue(x.Field(i), y.Field(i))
		}
		return equal
	}
	return x.Type() == y.Type() && x.Equal(y)
}

func expect[T any](t *testing.T, what string, got T, e api.Errno, want T) {
	t.Helper()
	if e != api.OK || !same(got, want) {
		t.Errorf("%s = %v, %d, want %v", what, got, e, want)
	}
}

func expectError[T any](t *testing.T, what string, got T, e, want api.Errno) {
	t.Helper()
	var zero T
	if e != want || !same(got, zero) {
		t.Errorf("%s = %v, %d, want nothing, %d", what, got, e, want)
	}
}

// span is the two results of Between or Kinship.
type span struct{ Low, High int }

func between(a api.Annals, from, to int) (span, api.Errno) {
	low, high, e := annals.Between(a, from, to)
	return span{low, high}, e
}

func kinship(k api.Kin, one, two int) (span, api.Errno) {
	up, down, e := annals.Kinship(k, one, two)
	return span{up, down}, e
}

// dice give a fixed series of numbers, so that every run of the tests is alike.
type dice uint64

func (d *dice) below(n int) int {
	*d = *d*6364136223846793005 + 1442695040888963407
	return int(uint64(*d)>>33) % n
}

// between returns a number from low to high.
func (d *dice) between(low, high int) int { return low + d.below(high-low+1) }

// two returns two different numbers below n.
func (d *dice) two(n int) (int, int) {
	one := d.below(n)
	return one, (one + 1 + d.below(n-1)) % n
}

// annals returns valid annals with at most so many points and facts. Most facts are
// true of some dates, so that many of the annals are sound.
func (d *dice) annals(points, facts int) api.Annals {
	a := api.Annals{Points: names(d.below(points + 1))}
	n := len(a.Points)
	if n < 2 {
		return a
	}
	reach := []int{3, 20, 1000, api.MaxYear}[d.below(4)]
	years := make([]int, n)
	for p := range years {
		years[p] = d.between(-reach, reach)
	}
	for range d.below(facts + 1) {
		from, to := d.two(n)
		years := years[to] - years[from]
		if d.below(12) == 0 {
			years += d.between(-reach, reach)
		}
		low, high := years-d.below(reach/2), years+d.below(reach/2)
		if d.below(3) == 0 {
			low, high = years, years
		}
		if low >= -api.MaxYear && high <= api.MaxYear {
			a.Facts = append(a.Facts, fact(from, to, low, high))
		}
	}
	for i := range d.below(4) {
		start, end := d.two(n)
		a.Reigns = append(a.Reigns, reign("K"+strconv.Itoa(i), start, end))
	}
	return a
}

// framed returns annals whose points are 0 to 20000 years after the first one, so
// that it can be only in the year -10000, and the third one only in 10000. The
// points from the fourth one on lie from -2 to 2 years from the year 0, or from -3
// to -1 years from the year 10000.
func (d *dice) framed() api.Annals {
	a := api.Annals{
		Points: []string{"first", "zero", "last", "x", "y", "z"},
		Facts:  []api.Fact{fact(0, 1, api.MaxYear, api.MaxYear), fact(2, 1, -api.MaxYear, -api.MaxYear)},
	}
	for p := 3; p < len(a.Points); p++ {
		if d.below(4) == 0 {
			a.Facts = append(a.Facts, fact(2, p, -3, -1))
		} else {
			a.Facts = append(a.Facts, fact(1, p, -2, 2))
		}
	}
	for range d.below(4) {
		from, to := 3+d.below(3), 1+d.below(5)
		if from != to {
			low := d.between(-2, 2)
			a.Facts = append(a.Facts, fact(from, to, low, low+d.below(3)))
		}
	}
	a.Reigns = []api.Reign{reign("A", 3, 4), reign("B", 4, 5), reign("C", 5, 3), reign("D", 1, 4), reign("E", 3, 5)}
	return a
}

// kin returns people and bonds without an error, unless somebody is their own
// ancestor, which is so in few of them.
func (d *dice) kin(people, bonds int) api.Kin {
	k := api.Kin{People: d.below(people + 1)}
	if k.People < 2 {
		return k
	}
	rank := d.shuffled(k.People)
	parents := make([]int, k.People)
	for range d.below(bonds + 1) {
		parent, child := d.two(k.People)
		if rank[parent] > rank[child] && d.below(20) > 0 {
			parent, child = child, parent
		}
		if b := bond(parent, child); parents[child] < 2 && !slices.Contains(k.Bonds, b) {
			parents[child]++
			k.Bonds = append(k.Bonds, b)
		}
	}
	return k
}

// shuffled returns the numbers below n in some order.
func (d *dice) shuffled(n int) []int {
	var all []int
	for i := range n {
		all = slices.Insert(all, d.below(i+1), i)
	}
	return all
}

// units returns the worths of units.
func (d *dice) units() []int {
	units := []int{1}
	for range d.below(api.MaxUnits) {
		if next := units[0] * d.between(2, 20); next <= api.MaxWorth {
			units = slices.Insert(units, 0, next)
		}
	}
	return units
}

// ledger returns a ledger whose sums are right, unless errs is true.
func (d *dice) ledger(rows int, errs bool) api.Ledger {
	l := api.Ledger{Units: d.units()}
	most := 1 + d.below(50)
	var open []int
	for range d.below(rows + 1) {
		row := api.Row{Amounts: make([]int, len(l.Units))}
		for i := range row.Amounts {
			row.Amounts[i] = d.below(most)
		}
		if len(open) > 0 && d.below(3) == 0 {
			row.Sums = 1 + d.below(min(len(open), 5))
			row.Amounts = carried(l.Units, sum(open[len(open)-row.Sums:]))
			if errs && d.below(2) == 0 {
				row.Amounts[0] += d.below(3)
			}
			open = open[:len(open)-row.Sums]
		}
		open = append(open, worth(l.Units, row.Amounts))
		l.Rows = append(l.Rows, row)
	}
	return l
}

// The functions below say again, as plainly as they can, what the chapter says.

// claim says that from one point to another there are at least so many years.
type claim struct{ from, to, least int }

// claims are what the facts of annals say.
func claims(a api.Annals) []claim {
	var all []claim
	for _, f := range a.Facts {
		all = append(all, claim{f.From, f.To, f.Low}, claim{f.To, f.From, -f.High})
	}
	return all
}

// raised returns the least dates that are not before some years and agree with
// claims: years that are too early are raised until none is.
func raised(years []int, all ...claim) (dates []int, ok bool) {
	dates = slices.Clone(years)
	for again := true; again; {
		again = false
		for _, c := range all {
			if c.from == c.to && c.least > 0 {
				return nil, false
			}
			if year := dates[c.from] + c.least; year > dates[c.to] {
				if year > api.MaxYear {
					return nil, false
				}
				dates[c.to], again = year, true
			}
		}
	}
	return dates, true
}

// first returns the least year for each of n points.
func first(n int) []int { return slices.Repeat([]int{-api.MaxYear}, n) }

// sound reports whether there are dates with which the facts of annals and some
// more claims agree.
func sound(a api.Annals, more ...claim) bool {
	_, ok := raised(first(len(a.Points)), append(claims(a), more...)...)
	return ok
}

// greatest returns the greatest number that a condition allows, which allows each
// number below one that it allows, from low to high.
func greatest(low, high int, allows func(n int) bool) int {
	for low < high {
		if middle := low + (high-low+1)/2; allows(middle) {
			low = middle
		} else {
			high = middle - 1
		}
	}
	return low
}

// most returns how many years there are at most from one point to another in a
// solution of sound annals.
func most(a api.Annals, from, to int) int {
	return greatest(-2*api.MaxYear, 2*api.MaxYear, func(n int) bool { return sound(a, claim{from, to, n}) })
}

// stay returns what is left of the facts of annals if each one is taken away, in
// order, without which the others are no solution with some more claims.
func stay(a api.Annals, more ...claim) []int {
	var left []int
	for i := range a.Facts {
		left = append(left, i)
	}
	for i := range a.Facts {
		if at := slices.Index(left, i); !sound(only(a, without(left, at)), more...) {
			left = without(left, at)
		}
	}
	return left
}

// solutions returns all solutions of annals that d.framed has made.
func solutions(a api.Annals) [][]int {
	years := [][]int{{-10000}, {0}, {10000}}
	for range a.Points[3:] {
		years = append(years, []int{-2, -1, 0, 1, 2, 9997, 9998, 9999})
	}
	var all [][]int
	var date func(dates []int)
	date = func(dates []int) {
		if len(dates) == len(years) {
			if satisfied(a, dates) == len(a.Facts) {
				all = append(all, dates)
			}
			return
		}
		for _, year := range years[len(dates)] {
			date(append(slices.Clip(dates), year))
		}
	}
	date(nil)
	return all
}

// satisfied returns the first fact that dates do not satisfy, and the number of
// facts if they satisfy all.
func satisfied(a api.Annals, dates []int) int {
	for i, f := range a.Facts {
		if n := dates[f.To] - dates[f.From]; n < f.Low || n > f.High {
			return i
		}
	}
	return len(a.Facts)
}

func sum(numbers []int) int {
	n := 0
	for _, x := range numbers {
		n += x
	}
	return n
}

func worth(units, amounts []int) int {
	n := 0
	for i := range units {
		n += units[i] * amounts[i]
	}
	return n
}

// carried returns the amounts with a worth, the greatest units first.
func carried(units []int, worth int) []int {
	var amounts []int
	for _, unit := range units {
		amounts = append(amounts, worth/unit)
		worth -= worth / unit * unit
	}
	return amounts
}

// wrongs returns what Audit should: every row before a sum is looked at, from the
// nearest one on, and those that were counted are remembered.
func wrongs(l api.Ledger) []api.Wrong {
	var all []api.Wrong
	counted := make([]bool, len(l.Rows))
	for i, row := range l.Rows {
		by := worth(l.Units, row.Amounts)
		for n, j := row.Sums, i-1; n > 0; j-- {
			if !counted[j] {
				counted[j] = true
				by -= worth(l.Units, l.Rows[j].Amounts)
				n--
			}
		}
		if row.Sums > 0 && by != 0 {
			all = append(all, api.Wrong{Row: i, By: by})
		}
	}
	return all
}

// descent returns the numbers of steps in which somebody descends from each person.
func descent(k api.Kin, one int) [][]int {
	all := make([][]int, k.People)
	var climb func(person, steps int)
	climb = func(person, steps int) {
		all[person] = append(all[person], steps)
		for _, b := range k.Bonds {
			if b.Child == person {
				climb(b.Parent, steps+1)
			}
		}
	}
	climb(one, 0)
	return all
}

// related returns the steps between two people, by all common ancestors and all
// ways to them.
func related(k api.Kin, one, two int) (steps span, ok bool) {
	ups, downs := descent(k, one), descent(k, two)
	for person := range k.People {
		for _, up := range ups[person] {
			for _, down := range downs[person] {
				if !ok || up+down < steps.Low+steps.High || up+down == steps.Low+steps.High && up < steps.Low {
					steps, ok = span{up, down}, true
				}
			}
		}
	}
	return steps, ok
}

// orders returns all orders of n people, in order.
func orders(n int) [][]int {
	all := [][]int{nil}
	for range n {
		var more [][]int
		for _, order := range all {
			for person := range n {
				if !slices.Contains(order, person) {
					more = append(more, append(slices.Clip(order), person))
				}
			}
		}
		all = more
	}
	return all
}

// descends reports whether parents stand before their children.
func descends(k api.Kin, order []int) bool {
	for _, b := range k.Bonds {
		if slices.Index(order, b.Parent) > slices.Index(order, b.Child) {
			return false
		}
	}
	return true
}
