package annals

import "ostracon/api"

// mostYears is the greatest number of years between two dates.
const mostYears = 2 * api.MaxYear

// table says for each two moments how many years there are at most from the one
// to the other. The moments are the points of annals and, behind them, the year 0,
// so that a year is bounded as any number of years is. A table that is assigned is
// a copy: more facts can be tried on it while the first one is kept.
type table [api.MaxPoints + 1][api.MaxPoints + 1]int

// free returns the table of dates that need not satisfy any fact.
func free(points int) table {
	var t table
	for p := range points {
		for q := range points {
			if p != q {
				t[p][q] = mostYears
			}
		}
		t[p][points], t[points][p] = api.MaxYear, api.MaxYear
	}
	return t
}

// reckon returns the bounds of all solutions; sound is false if there is none.
func reckon(a api.Annals) (t table, sound bool) {
	return free(len(a.Points)).with(len(a.Points), a.Facts...)
}

// solve returns the bounds of all solutions, or the error that annals have.
func solve(a api.Annals) (table, api.Errno) {
	if e := Check(a); e != api.OK {
		return table{}, e
	}
	t, sound := reckon(a)
	if !sound {
		return table{}, api.ErrConflict
	}
	return t, api.OK
}

// with returns the bounds that are left with more facts; sound is false if no
// dates are.
func (t table) with(points int, facts ...api.Fact) (left table, sound bool) {
	left = t
	for _, f := range facts {
		left[f.From][f.To] = min(left[f.From][f.To], f.High)
		left[f.To][f.From] = min(left[f.To][f.From], -f.Low)
	}
	for via := range points + 1 {
		left.shorten(points+1, via)
		// The numbers may double with each moment once there is a circle, so
		// that they would overflow before the last one is done.
		if left.circle(points + 1) {
			return table{}, false
		}
	}
	return left, true
}

// shorten lowers the bounds between moments by the ways via one of them.
func (t *table) shorten(moments, via int) {
	for from := range moments {
		for to := range moments {
			t[from][to] = min(t[from][to], t[from][via]+t[via][to])
		}
	}
}

// circle reports whether a moment would have to be before itself.
func (t *table) circle(moments int) bool {
	for p := range moments {
		if t[p][p] < 0 {
			return true
		}
	}
	return false
}

// high returns how many years there are at most from one moment to another.
func (t *table) high(from, to int) int { return t[from][to] }

// low returns how many years there are at least from one moment to another.
func (t *table) low(from, to int) int { return -t[to][from] }
