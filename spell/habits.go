package spell

import (
	"slices"

	"ostracon/api"
	"ostracon/grammar"
)

// unused is the number of a sign that is not used.
const unused = -1

// valid reports whether habits are valid for a valid house.
func valid(h api.House, b api.Habits) bool {
	outside := func(number int) bool { return number < unused || number > api.MaxCost }
	return len(b.Signs) == len(h.List.Signs) && !slices.ContainsFunc(b.Signs, outside) &&
		isHabit(b.Repeat) && isHabit(b.Close)
}

func isHabit(n int) bool { return api.Never <= n && n <= api.Always }

// keep reports whether signs keep habits with the word that they spell.
func keep(h api.House, b api.Habits, line []int, w api.Spelled) bool {
	if slices.ContainsFunc(line, func(sign int) bool { return b.Signs[sign] == unused }) {
		return false
	}
	wording := grammar.WordingOf(h.Lexicon, w.Form)
	var p grammar.Progress
	for _, u := range w.Uses {
		if !mayFollow(b, p, u) {
			return false
		}
		p, _ = wording.Take(p, u)
	}
	return mayEnd(b, wording, p)
}

// mayFollow reports whether habits allow a use that the grammar allows next.
func mayFollow(b api.Habits, p grammar.Progress, u api.Use) bool {
	switch {
	case u.Kind == api.Repeats:
		return b.Repeat != api.Never
	case mustRepeat(b, p):
		return false
	case closes(u):
		return b.Close != api.Never
	}
	return true
}

// mustRepeat reports whether habits demand that the next use Repeats.
func mustRepeat(b api.Habits, p grammar.Progress) bool {
	return b.Repeat == api.Always && p.Echo != ""
}

func closes(u api.Use) bool { return u.Kind == api.Closes }

// mayEnd reports whether habits allow that a word whose sounds are spelled ends.
func mayEnd(b api.Habits, w grammar.Wording, p grammar.Progress) bool {
	mustClose := b.Close == api.Always && w.Class != "" && !p.Closed
	return !mustRepeat(b, p) && !mustClose
}

// tally is how often something could be done, and how often it was.
type tally struct {
	all, done int
}

func (t *tally) add(done bool) {
	t.all++
	if done {
		t.done++
	}
}

// addEchoes adds the uses that one right behind them can repeat.
func (t *tally) addEchoes(uses []api.Use) {
	for i, u := range uses {
		if grammar.Echo(u) != "" {
			t.add(i+1 < len(uses) && uses[i+1].Kind == api.Repeats)
		}
	}
}

// habit returns the habit of somebody who did all of this.
func (t tally) habit() int {
	switch {
	case t.all == 0:
		return api.May
	case t.done == t.all:
		return api.Always
	case t.done == 0:
		return api.Never
	}
	return api.May
}

// numbers returns the number of each sign of a list for somebody who wrote lines:
// the more often a sign stands in them, the less it costs.
func numbers(signs int, lines [][]int) []int {
	times := make([]int, signs)
	most := 0
	for _, line := range lines {
		for _, sign := range line {
			times[sign]++
			most = max(most, times[sign])
		}
	}
	all := make([]int, signs)
	for sign, n := range times {
		all[sign] = min(most-n, api.MaxCost)
		if n == 0 {
			all[sign] = unused
		}
	}
	return all
}

// stricter returns the habit that keeps two, if they do not exclude each other.
func stricter(a, b int) (habit int, ok bool) {
	switch {
	case a == b || b == api.May:
		return a, true
	case a == api.May:
		return b, true
	}
	return 0, false
}

// greater returns the number that a sign has if it has to keep two.
func greater(a, b int) int {
	if a == unused || b == unused {
		return unused
	}
	return max(a, b)
}
