package annals_test

import (
	"math"
	"slices"
	"strconv"
	"testing"

	"ostracon/annals"
	"ostracon/api"
)

// crowd returns annals with so many points, facts and reigns.
func crowd(points, facts, reigns int) api.Annals {
	a := api.Annals{Points: names(points), Facts: slices.Repeat([]api.Fact{fact(0, 1, 0, 1)}, facts)}
	for i := range reigns {
		a.Reigns = append(a.Reigns, reign(strconv.Itoa(i), 1, 0))
	}
	return a
}

func expectCheck(t *testing.T, a api.Annals, want api.Errno) {
	t.Helper()
	if e := annals.Check(a); e != want {
		t.Errorf("Check of %v = %d, want %d", a, e, want)
	}
}

// P11.1
func TestCheck(t *testing.T) {
	expectCheck(t, example(), api.OK)
	expectCheck(t, api.Annals{}, api.OK)
	expectCheck(t, crowd(1, 0, 0), api.OK)
	expectCheck(t, crowd(2, 3, 2), api.OK)
	expectCheck(t, crowd(api.MaxPoints, api.MaxFacts, api.MaxReigns), api.OK)
	expectCheck(t, crowd(api.MaxPoints+1, 0, 0), api.ErrMany)
	expectCheck(t, crowd(2, api.MaxFacts+1, 0), api.ErrMany)
	expectCheck(t, crowd(2, 0, api.MaxReigns+1), api.ErrMany)
}

// P11.1: names of points.
func TestCheckPoints(t *testing.T) {
	for _, name := range []string{"a", "z", "A", "Z", "0", "9", "abcdefgh", "K2x", "point", "00000000"} {
		expectCheck(t, api.Annals{Points: []string{name}}, api.OK)
		expectCheck(t, api.Annals{Points: []string{"p", "q", name}}, api.OK)
	}
	for _, name := range []string{"", " ", "abcdefghi", "a b", "a ", "a-", "-", "_", "é", "\xff", "\x00", "a\n", "`", "{", "@", "[", "/", ":", "p"} {
		expectCheck(t, api.Annals{Points: []string{"p", name}}, api.ErrPoint)
		expectCheck(t, api.Annals{Points: []string{"p", "q", name, "r"}}, api.ErrPoint)
	}
	expectCheck(t, api.Annals{Points: []string{"p", "P"}}, api.OK)
	expectCheck(t, api.Annals{Points: append(names(59), "p0")}, api.ErrPoint)
	expectCheck(t, api.Annals{Points: append(names(59), "p58")}, api.ErrPoint)
}

// P11.1: facts.
func TestCheckFacts(t *testing.T) {
	for _, f := range []api.Fact{fact(0, 1, 0, 0), fact(2, 0, -1, 1), fact(1, 2, -10000, -10000), fact(1, 2, 10000, 10000), fact(1, 2, -10000, 10000), fact(0, 1, 5, 5)} {
		expectCheck(t, plus(example(), f), api.OK)
		expectCheck(t, plus(example(), f, f), api.OK)
	}
	for _, f := range []api.Fact{
		fact(0, 0, 0, 0), fact(2, 2, 1, 1), fact(-1, 1, 0, 0), fact(0, -1, 0, 0), fact(3, 1, 0, 0), fact(1, 3, 0, 0), fact(-1, -1, 0, 0), fact(3, 4, 0, 0), fact(math.MinInt, 1, 0, 0), fact(1, math.MaxInt, 0, 0),
		fact(0, 1, 1, 0), fact(0, 1, -10001, 0), fact(0, 1, 0, 10001), fact(0, 1, -10001, -10001), fact(0, 1, 10001, 10001), fact(0, 1, 10001, 10000), fact(0, 1, -10000, -10001), fact(0, 1, math.MinInt, math.MaxInt), fact(0, 1, math.MaxInt, math.MinInt),
	} {
		expectCheck(t, plus(example(), f), api.ErrFact)
		expectCheck(t, plus(example(), fact(0, 1, 0, 0), f, fact(1, 0, 0, 0)), api.ErrFact)
	}
	expectCheck(t, api.Annals{Facts: []api.Fact{fact(0, 1, 0, 0)}}, api.ErrFact)
}

// P11.1: reigns.
func TestCheckReigns(t *testing.T) {
	for _, r := range []api.Reign{reign("a", 0, 1), reign("Z", 2, 0), reign("abcdefgh", 1, 2), reign("p", 0, 2), reign("k", 0, 1), reign("0", 0, 1)} {
		a := example()
		a.Reigns = append(a.Reigns, r)
		expectCheck(t, a, api.OK)
	}
	for _, r := range []api.Reign{
		reign("", 0, 1), reign("abcdefghi", 0, 1), reign("a b", 0, 1), reign("é", 0, 1), reign("-", 0, 1), reign("K", 0, 1), reign("L", 2, 0), reign("K", 1, 2),
		reign("M", 0, 0), reign("M", 2, 2), reign("M", -1, 0), reign("M", 0, -1), reign("M", 3, 0), reign("M", 0, 3), reign("M", -1, -1), reign("M", math.MaxInt, math.MinInt),
	} {
		a := example()
		a.Reigns = append(a.Reigns, r)
		expectCheck(t, a, api.ErrReign)
		a.Reigns = append(a.Reigns, reign("Q", 1, 0))
		expectCheck(t, a, api.ErrReign)
	}
	expectCheck(t, api.Annals{Reigns: []api.Reign{reign("K", 0, 1)}}, api.ErrReign)
}

// broken are annals with all errors of Check that are not before an error.
func broken(from api.Errno) api.Annals {
	a := example()
	switch from {
	case api.ErrMany:
		a.Reigns = slices.Repeat(a.Reigns, 30)
		fallthrough
	case api.ErrPoint:
		a.Points[2] = "p"
		fallthrough
	case api.ErrFact:
		a.Facts[1].To = 3
		fallthrough
	case api.ErrReign:
		a.Reigns[1].King = "K"
		fallthrough
	case api.ErrConflict:
		a.Facts = append(a.Facts, fact(1, 0, 0, 0))
	}
	return a
}

// P11.1: the order of the errors.
func TestCheckOrder(t *testing.T) {
	for _, e := range []api.Errno{api.ErrMany, api.ErrPoint, api.ErrFact, api.ErrReign} {
		expectCheck(t, broken(e), e)
	}
	expectCheck(t, broken(api.ErrConflict), api.OK)
}

// P11.1: all functions with annals return Check's errors first.
func TestChecksErrorsFirst(t *testing.T) {
	for _, e := range []api.Errno{api.ErrMany, api.ErrPoint, api.ErrFact, api.ErrReign} {
		a := broken(e)
		is, e1 := annals.Sound(a)
		expectError(t, "Sound", is, e1, e)
		at, e1 := annals.Holds(a, nil)
		expectError(t, "Holds", at, e1, e)
		years, e1 := annals.Earliest(a)
		expectError(t, "Earliest", years, e1, e)
		years, e1 = annals.Latest(a)
		expectError(t, "Latest", years, e1, e)
		bounds, e1 := between(a, -1, 9)
		expectError(t, "Between", bounds, e1, e)
		facts, e1 := annals.Conflict(a)
		expectError(t, "Conflict", facts, e1, e)
		facts, e1 = annals.Why(a, -1, 9, 99999)
		expectError(t, "Why", facts, e1, e)
		meet, e1 := annals.Meet(a, -1, 99)
		expectError(t, "Meet", meet, e1, e)
		regnal, e1 := annals.Regnal(a, nil, 0)
		expectError(t, "Regnal", regnal, e1, e)
		year, e1 := annals.Dated(a, nil, api.Regnal{Reign: -1})
		expectError(t, "Dated", year, e1, e)
		text, e1 := annals.Format(a)
		expectError(t, "Format", text, e1, e)
	}
}
