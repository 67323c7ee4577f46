package read_test

import (
	"slices"
	"testing"

	"ostracon/api"
	"ostracon/read"
)

// P6.1: each part of a house is examined, in order.
func TestCheckHouse(t *testing.T) {
	check := func(what string, h api.House, want api.Errno) {
		t.Helper()
		if e := read.CheckHouse(h); e != want {
			t.Errorf("CheckHouse of %s = %d, want %d", what, e, want)
		}
	}
	check("the example", example(t), api.OK)
	check("a house without signs and words", api.House{List: api.List{Periods: 1}, Period: 1}, api.OK)
	check("nothing", api.House{}, api.ErrPeriod)
	h := example(t)
	h.Period = 2
	check("a wrong period", h, api.ErrPeriod)
	h.Costs.Close = -1
	check("wrong costs and a wrong period", h, api.ErrCosts)
	h.Lexicon.Clitics[0].Weight = -1
	check("a wrong clitic, costs and period", h, api.ErrClitic)
	h.Lexicon.Endings[0].Kind = 0
	check("a wrong ending, clitic, costs and period", h, api.ErrEnding)
	h.Lexicon.Entries[0].Kind = 0
	check("a wrong entry, ending, clitic, costs and period", h, api.ErrWord)
	h.List.Signs[7].Values[0].To = 2
	check("a wrong list, and all that stands behind it", h, api.ErrPeriod)
	h.List.Signs[6].Code = "A1"
	check("a code that stands twice, and all that stands behind it", h, api.ErrCode)
	h.List.Signs = make([]api.Sign, 201)
	check("too many signs", h, api.ErrMany)
}

// P6.1: the bounds of the costs and of the period.
func TestCheckHouseBounds(t *testing.T) {
	for cost, want := range map[int]api.Errno{0: api.OK, 1: api.OK, 1000: api.OK, -1: api.ErrCosts, 1001: api.ErrCosts, -1 << 63: api.ErrCosts, 1<<63 - 1: api.ErrCosts} {
		for i, c := range []api.Costs{{Spell: cost}, {Stand: cost}, {Repeat: cost}, {Close: cost}, {Open: cost}} {
			h := example(t)
			h.Costs = c
			if e := read.CheckHouse(h); e != want {
				t.Errorf("CheckHouse with %d as the cost %d = %d, want %d", cost, i, e, want)
			}
		}
	}
	h := example(t)
	h.List.Periods = 3
	for period, want := range map[int]api.Errno{1: api.OK, 2: api.OK, 3: api.OK, 0: api.ErrPeriod, 4: api.ErrPeriod, -1: api.ErrPeriod, -1 << 63: api.ErrPeriod, 1<<63 - 1: api.ErrPeriod} {
		h.Period = period
		if e := read.CheckHouse(h); e != want {
			t.Errorf("CheckHouse with the period %d = %d, want %d", period, e, want)
		}
	}
}

// P6.1: the uses of a sign.
func TestUses(t *testing.T) {
	h := house(t, "periods 3\nA1 1x1 s:b@1-3 w:b@2-2 c:b@1-2 s:a@2-3 s:ab@2-2 w:ab@2-3 s:B@2-2 c:a@1-1 c:c@2-3\nB1 1x1 s:x@1-1 s:x@3-3 w:x@2-2\nC1 1x1\n", "", api.Costs{})
	for _, c := range []struct {
		sign, period int
		want         string
	}{
		{0, 1, "0 s:b r:b c:a c:b"},
		{0, 2, "0 s:B s:a s:ab s:b w:ab w:b r:B r:a r:ab r:b c:b c:c"},
		{0, 3, "0 s:a s:b w:ab r:a r:b c:c"},
		{1, 1, "0 s:x r:x"}, {1, 2, "0 w:x"}, {1, 3, "0 s:x r:x"},
		{2, 2, "0"},
	} {
		h.Period = c.period
		if got, e := read.Uses(h, c.sign); e != api.OK || showWord(api.Spelled{Form: form("0"), Uses: got}) != c.want {
			t.Errorf("Uses of %d in period %d = %v, %d, want %s", c.sign, c.period, got, e, c.want)
		}
	}
	for _, sign := range []int{-1, 3, -1 << 63, 1<<63 - 1} {
		got, e := read.Uses(h, sign)
		expectError(t, "Uses", got, e, api.ErrSign)
	}
	h.Costs.Spell = -1
	got, e := read.Uses(h, 3)
	expectError(t, "Uses in a house that is not valid", got, e, api.ErrCosts)
}

// failing are the errors of all functions that have a line, for arguments that
// are otherwise valid.
func failing(h api.House, line []int) []api.Errno {
	_, e1 := read.Price(h, line, word("0 s:nfr"))
	_, e2 := read.Words(h, line, 0)
	_, e3 := read.Forest(h, line)
	_, e4 := read.Count(h, line)
	_, e5 := read.List(h, line, 1)
	_, e6 := read.Best(h, line)
	_, e7 := read.Certain(h, line)
	_, e8 := read.Reach(h, line)
	_, e9 := read.Prove(h, line)
	_, e10 := read.Proves(h, line, nil, 0)
	_, _, e11 := read.Valid(h, line, words("0 s:nfr"))
	return []api.Errno{e1, e2, e3, e4, e5, e6, e7, e8, e9, e10, e11}
}

// What a line may be, in all functions that have one.
func TestLineErrors(t *testing.T) {
	h := example(t)
	b1 := line(t, h, "B1")
	all := slices.Repeat([]api.Errno{api.ErrSign}, 11)
	for _, l := range [][]int{{-1}, {8}, {-1 << 63}, {1<<63 - 1}, {1, 8}, {8, 1}, append(slices.Repeat(b1, 59), 8)} {
		if got := failing(h, l); !slices.Equal(got, all) {
			t.Errorf("the errors for the line %v are %v", l, got)
		}
	}
	all = slices.Repeat([]api.Errno{api.ErrMany}, 11)
	for _, l := range [][]int{slices.Repeat(b1, 61), slices.Repeat([]int{8}, 61), make([]int, 100000)} {
		if got := failing(h, l); !slices.Equal(got, all) {
			t.Errorf("the errors for %d signs are %v", len(l), got)
		}
	}
	all = slices.Repeat([]api.Errno{api.ErrCosts}, 11)
	h.Costs.Open = 1001
	for _, l := range [][]int{b1, {8}, slices.Repeat(b1, 61)} {
		if got := failing(h, l); !slices.Equal(got, all) {
			t.Errorf("the errors in a house that is not valid are %v", got)
		}
	}
	for _, l := range [][]int{b1, {8}, slices.Repeat(b1, 61)} {
		if cost, at, e := read.Valid(h, l, words("9")); cost != 0 || at != 0 || e != api.ErrCosts {
			t.Errorf("Valid in a house that is not valid = %d, %d, %d", cost, at, e)
		}
	}
	h = example(t)
	if cost, at, e := read.Valid(h, []int{1, 8}, words("0 s:nfr | 9")); cost != 0 || at != 0 || e != api.ErrSign {
		t.Errorf("Valid of no sign = %d, %d, %d", cost, at, e)
	}
	for _, n := range []int{1, 59, 60} {
		if got := failing(h, slices.Repeat(b1, n))[1:10]; !slices.Equal(got, make([]api.Errno, 9)) {
			t.Errorf("the errors for %d signs are %v", n, got)
		}
	}
}
