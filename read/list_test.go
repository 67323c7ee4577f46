package read_test

import (
	"slices"
	"strings"
	"testing"

	"ostracon/api"
	"ostracon/read"
)

func expectList(t *testing.T, h api.House, codes string, most int, want ...string) {
	t.Helper()
	got, e := read.List(h, line(t, h, codes), most)
	expectReadings(t, "List of "+codes, got, e, want...)
	best, e := read.Best(h, line(t, h, codes))
	expectReadings(t, "Best of "+codes, []api.Reading{best}, e, want[0])
}

// P6.3: the readings of the chapter's examples.
func TestListOfExamples(t *testing.T) {
	h := example(t)
	expectList(t, h, "B1 D1 F1", 64, "3: 0 s:nfr r:r c:good")
	expectList(t, h, "B1 D1", 64, "7: 0 s:nfr r:r")
	expectList(t, h, "A1 C1 D1", 64, "9: 0 s:n s:f s:r")
	expectList(t, h, "A1 C1", 64, "6: 1=0 s:n s:f")
	expectList(t, h, "B1 F1 C1", 64, "7: 0=0 s:nfr c:good s:f")
	expectList(t, h, "B1 C1", 64, "11: 0=0 s:nfr s:f")
	expectList(t, h, "E1 D1 G1 F1", 64, "4: 0-0 w:nfr r:r s:t c:good")
	expectList(t, h, "A1 H1", 64, "3: 1 s:n | 1 w:n", "4: 1 s:n | 1 s:n")
	expectList(t, h, "A1 H1", 2, "3: 1 s:n | 1 w:n", "4: 1 s:n | 1 s:n")
	expectList(t, h, "A1 H1", 1, "3: 1 s:n | 1 w:n")
	expectList(t, h, "H1 A1", 64, "1: 1 w:n r:n", "3: 1 w:n | 1 s:n", "4: 1 s:n | 1 s:n")
	expectList(t, h, "H1 A1", 2, "1: 1 w:n r:n", "3: 1 w:n | 1 s:n")
	expectList(t, h, "", 64, "0: ")
	expectList(t, h, "", 1, "0: ")
	expectList(t, h, "B1 D1 F1 B1 C1", 64, "14: 0 s:nfr r:r c:good | 0=0 s:nfr s:f")
	// Each H1 but the first one Spells, Stands or Repeats what the one before stands for.
	expectList(t, h, "H1 H1 H1", 64, "2: 1 w:n | 1 w:n r:n", "2: 1 w:n r:n | 1 w:n", "3: 1 s:n | 1 w:n r:n", "3: 1 w:n | 1 w:n | 1 w:n", "3: 1 w:n r:n | 1 s:n",
		"4: 1 s:n | 1 w:n | 1 w:n", "4: 1 w:n | 1 s:n | 1 w:n", "4: 1 w:n | 1 w:n | 1 s:n", "5: 1 s:n | 1 s:n | 1 w:n", "5: 1 s:n | 1 w:n | 1 s:n", "5: 1 w:n | 1 s:n | 1 s:n", "6: 1 s:n | 1 s:n | 1 s:n")
}

// P6.3: readings of the same cost are in the order of their words.
func TestListOrder(t *testing.T) {
	h := house(t, "periods 1\nA 1x1 s:a@1-1\n", "word aaa 1 - 0\nword aa 1 - 0\nword a 1 - 0\n", api.Costs{})
	expectList(t, h, "A A A", 64, "0: 2 s:a | 2 s:a | 2 s:a", "0: 2 s:a | 1 s:a s:a", "0: 1 s:a s:a | 2 s:a", "0: 0 s:a s:a s:a")
	expectList(t, h, "A A A", 3, "0: 2 s:a | 2 s:a | 2 s:a", "0: 2 s:a | 1 s:a s:a", "0: 1 s:a s:a | 2 s:a")
	h = house(t, "periods 1\nA 1x1 s:a@1-1\n", "word aaa 1 - 1\nword aa 1 - 0\nword a 1 - 1\n", api.Costs{})
	expectList(t, h, "A A A", 64, "1: 2 s:a | 1 s:a s:a", "1: 1 s:a s:a | 2 s:a", "1: 0 s:a s:a s:a", "3: 2 s:a | 2 s:a | 2 s:a")
	h = house(t, "periods 1\nA 1x1 s:a@1-1 w:a@1-1 s:aa@1-1\n", "word a 2 - 1\nword a 1 - 0\nending 2 a e 0\nending 1 a f 1\nclitic a g 1\n", api.Costs{})
	expectList(t, h, "A", 64, "0: 1 s:a", "0: 1 w:a", "1: 0 s:a", "1: 0 w:a", "1: 0-0 s:aa", "1: 1-1 s:aa")
}

// P6.3: words cost more than others that are read first; the cost of what
// follows counts.
func TestListLooksAhead(t *testing.T) {
	h := house(t, "periods 1\nA 1x1 s:a@1-1\nB 1x1 s:b@1-1\n", "word a 1 - 0\nword ab 1 - 5\nword aab 1 - 2\nword b 1 - 9\n", api.Costs{})
	expectList(t, h, "A A B", 64, "2: 2 s:a s:a s:b", "5: 0 s:a | 1 s:a s:b", "9: 0 s:a | 0 s:a | 3 s:b")
	expectList(t, h, "A A B A B", 4, "7: 2 s:a s:a s:b | 1 s:a s:b", "10: 0 s:a | 1 s:a s:b | 1 s:a s:b", "11: 2 s:a s:a s:b | 0 s:a | 3 s:b", "14: 0 s:a | 0 s:a | 3 s:b | 1 s:a s:b")
}

// P6.3: how many readings may be asked for.
func TestListMost(t *testing.T) {
	h := example(t)
	for _, codes := range []string{"A1 H1", "D1", ""} {
		for _, most := range []int{0, -1, 65, -1 << 63, 1<<63 - 1} {
			got, e := read.List(h, line(t, h, codes), most)
			expectError(t, "List", got, e, api.ErrArg)
		}
	}
	long := line(t, h, strings.Repeat("H1 ", 8))
	for _, most := range []int{1, 2, 63, 64} {
		if got, e := read.List(h, long, most); len(got) != most || e != api.OK {
			t.Errorf("List of %d are %d, %d", most, len(got), e)
		}
	}
	got, e := read.List(h, []int{8}, 0)
	expectError(t, "List of no sign", got, e, api.ErrSign)
	h.Period = 0
	got, e = read.List(h, nil, 0)
	expectError(t, "List in a house that is not valid", got, e, api.ErrPeriod)
}

// P6.3: lines without readings.
func TestNoReading(t *testing.T) {
	h := example(t)
	for _, codes := range []string{"D1", "B1 C1 D1", "D1 A1", "A1 D1", "A1 D1 A1", "F1", "A1 F1", strings.Repeat("A1 ", 59) + "D1", "D1" + strings.Repeat(" A1", 59)} {
		list, e := read.List(h, line(t, h, codes), 64)
		expectError(t, "List of "+codes, list, e, api.ErrReading)
		best, e := read.Best(h, line(t, h, codes))
		expectError(t, "Best of "+codes, best, e, api.ErrReading)
	}
	empty := api.House{List: h.List, Costs: h.Costs, Period: 1}
	best, e := read.Best(empty, []int{0})
	expectError(t, "Best without entries", best, e, api.ErrReading)
	best, e = read.Best(empty, nil)
	expectReadings(t, "Best of no signs without entries", []api.Reading{best}, e, "0: ")
}

// P6.3: the first readings of a line with as many as can be.
func TestListOfLongLine(t *testing.T) {
	h := house(t, "periods 1\nA 1x1 s:a@1-1 w:a@1-1\n", "word a 1 - 1\nword a 2 - 1\nword aa 1 - 3\n", api.Costs{Repeat: 5})
	l := make([]int, 60)
	got, e := read.List(h, l, 64)
	if len(got) != 64 || e != api.OK {
		t.Fatalf("List are %d, %d", len(got), e)
	}
	// The least cost is one for each sign, with words of one sign. In the first 64
	// readings the last six words go through all that such words can be.
	kinds := words("0 s:a | 0 w:a | 1 s:a | 1 w:a")
	for i, r := range got {
		want := api.Reading{Words: slices.Repeat(kinds[:1], 60), Cost: 60}
		for place, rest := 59, i; rest > 0; place, rest = place-1, rest/4 {
			want.Words[place] = kinds[rest%4]
		}
		if !sameReading(r, want) {
			t.Fatalf("the reading %d is %s, want %s", i, showReading(r), showReading(want))
		}
	}
}

// The largest costs.
func TestLargestCosts(t *testing.T) {
	h := house(t, "periods 1\nA 1x1 s:a@1-1\nB 1x1 s:b@1-1\nC 1x1 s:c@1-1\nD 1x1 s:d@1-1\nE 1x1 s:e@1-1\n", "word aaaaaaaa 1 x 1000\nending 1 b e 1000\nclitic c f 1000\nclitic d g 1000\nclitic e h 1000\n",
		api.Costs{Spell: 1000, Stand: 1000, Repeat: 1000, Close: 1000, Open: 1000})
	l := slices.Repeat([]int{0, 0, 0, 0, 0, 0, 0, 0, 1, 2, 3, 4}, 5)
	if best, e := read.Best(h, l); e != api.OK || best.Cost != 5*(5000+12000+1000) || len(best.Words) != 5 {
		t.Errorf("Best = %s, %d", showReading(best), e)
	}
	if table, e := read.Prove(h, l); e != api.OK || table[0] != 90000 || table[48] != 18000 {
		t.Errorf("Prove = %v, %d", table, e)
	}
}
