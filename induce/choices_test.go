package induce_test

import (
	"math"
	"slices"
	"testing"

	"ostracon/api"
	"ostracon/induce"
)

// badChoices are no choices of four entries.
func badChoices() [][]int {
	return [][]int{{4}, {0, 4}, {-1}, {-1, 0}, {1, 0}, {0, 0}, {0, 2, 1}, {0, 1, 2, 3, 3}, {math.MaxInt}, {math.MinInt, 0}, {0, math.MaxInt, math.MinInt}, {3, math.MaxInt}}
}

// P10.1
func TestOnly(t *testing.T) {
	h, _ := example(t)
	for _, keep := range choices(4) {
		want := h
		want.Lexicon.Entries = nil
		for _, entry := range keep {
			want.Lexicon.Entries = append(want.Lexicon.Entries, h.Lexicon.Entries[entry])
		}
		got, e := induce.Only(h, keep)
		expect(t, "Only", got, e, want)
	}
	for _, keep := range badChoices() {
		got, e := induce.Only(h, keep)
		expectError(t, "Only", got, e, api.ErrArg)
	}
}

// P10.1
func TestOnlyOfRolledHouses(t *testing.T) {
	d := dice(1)
	for range 500 {
		h := d.roll()
		keep := d.choice(h)
		got, e := induce.Only(h, keep)
		expect(t, "Only", got, e, few(h, keep))
	}
}

// P10.1
func TestReadable(t *testing.T) {
	h, corpus := example(t)
	for _, x := range []struct {
		keep []int
		want []bool
	}{
		{[]int{1, 3}, []bool{true, false, true}},
		{[]int{0, 1}, []bool{true, true, true}},
		{[]int{0}, []bool{true, true, false}},
		{[]int{1}, []bool{false, false, true}},
		{[]int{2}, []bool{false, false, true}},
		{[]int{2, 3}, []bool{true, false, true}},
		{[]int{3}, []bool{false, false, false}},
		{[]int{0, 1, 2, 3}, []bool{true, true, true}},
		{nil, []bool{false, false, false}},
	} {
		got, e := induce.Readable(h, corpus, x.keep)
		expect(t, "Readable", got, e, x.want)
	}
	got, e := induce.Readable(h, nil, nil)
	expect(t, "Readable of no lines", got, e, nil)
	got, e = induce.Readable(h, [][]int{nil, corpus[2], nil}, nil)
	expect(t, "Readable of lines without signs", got, e, []bool{true, false, true})
	for _, keep := range badChoices() {
		got, e := induce.Readable(h, corpus, keep)
		expectError(t, "Readable", got, e, api.ErrArg)
	}
}

// P10.1: as many lines, of as many signs, as there may be.
func TestReadableOfLongLines(t *testing.T) {
	h := plain(t, "A B C", "a ab b")
	full := slices.Repeat([]int{0, 1}, api.MaxLine/2)
	other := slices.Concat(full[:api.MaxLine-1], []int{0})
	lame := slices.Concat(full[:api.MaxLine-1], []int{2})
	corpus := slices.Repeat([][]int{full}, api.MaxCorpus)
	corpus[38], corpus[39] = other, lame
	for _, x := range []struct {
		keep        []int
		full, other bool
	}{
		{[]int{1}, true, false},
		{[]int{0, 1}, true, true},
		{[]int{0, 2}, true, true},
		{[]int{0}, false, false},
		{[]int{1, 2}, true, false},
	} {
		want := slices.Repeat([]bool{x.full}, api.MaxCorpus)
		want[38], want[39] = x.other, false
		got, e := induce.Readable(h, corpus, x.keep)
		expect(t, "Readable", got, e, want)
	}
}

// P10.1: the words of the choice are read with all uses, endings and clitics.
func TestReadableAsTold(t *testing.T) {
	d := dice(2)
	both := map[bool]int{}
	for range 1500 {
		h := d.roll()
		corpus, keep := d.lines(h, 4), d.choice(h)
		var want []bool
		for _, line := range corpus {
			want = append(want, readable(h, line, keep))
			both[want[len(want)-1]]++
		}
		got, e := induce.Readable(h, corpus, keep)
		expect(t, "Readable", got, e, want)
	}
	if both[true] < 500 || both[false] < 500 {
		t.Errorf("%d lines were readable, %d were not", both[true], both[false])
	}
}

// P10.1
func TestNeeds(t *testing.T) {
	h, corpus := example(t)
	for _, x := range []struct {
		keep  []int
		entry int
		want  []int
	}{
		{[]int{0, 1}, 1, []int{2}},
		{[]int{0, 1}, 0, []int{0, 1}},
		{[]int{0, 1, 2}, 1, nil},
		{[]int{0, 1, 2}, 2, nil},
		{[]int{0, 1, 2, 3}, 0, []int{1}},
		{[]int{1, 3}, 1, []int{0, 2}},
		{[]int{1, 3}, 3, []int{0}},
		{[]int{2, 3}, 3, []int{0}},
		{[]int{3}, 3, nil}, // no line is readable, so none needs it
	} {
		got, e := induce.Needs(h, corpus, x.keep, x.entry)
		expect(t, "Needs", got, e, x.want)
	}
	got, e := induce.Needs(h, nil, []int{2}, 2)
	expect(t, "Needs of no lines", got, e, nil)
	got, e = induce.Needs(h, [][]int{nil, corpus[2]}, []int{2}, 2)
	expect(t, "Needs of a line without signs", got, e, []int{1})
}

// P10.1
func TestNeedsAsTold(t *testing.T) {
	d := dice(3)
	found := 0
	for range 1000 {
		h := d.roll()
		corpus, keep := d.lines(h, 5), d.choice(h)
		for _, entry := range keep {
			want := needs(h, corpus, keep, entry)
			got, e := induce.Needs(h, corpus, keep, entry)
			expect(t, "Needs", got, e, want)
			found += len(want)
		}
	}
	if found < 300 {
		t.Errorf("only %d lines needed an entry", found)
	}
}

// P10.1
func TestErrorsOfNeeds(t *testing.T) {
	h, corpus := example(t)
	for _, keep := range badChoices() {
		for _, entry := range append(slices.Clone(keep), 0) {
			got, e := induce.Needs(h, corpus, keep, entry)
			expectError(t, "Needs", got, e, api.ErrArg)
		}
	}
	for _, entry := range []int{-1, 0, 2, 4, math.MaxInt, math.MinInt} {
		for _, keep := range [][]int{{1, 3}, {1}, nil} {
			got, e := induce.Needs(h, corpus, keep, entry)
			expectError(t, "Needs of an entry that is not in the choice", got, e, api.ErrArg)
		}
	}
}
