package read_test

import (
	"slices"
	"strings"
	"testing"

	"ostracon/api"
	"ostracon/read"
)

// P6.2: the forests of the chapter's examples, and those of lines with words
// that are in no reading.
func TestForest(t *testing.T) {
	h := example(t)
	for _, c := range []struct {
		codes string
		want  []string
	}{
		{"A1 H1", []string{"0-1 2: 1 s:n", "1-2 2: 1 s:n", "1-2 1: 1 w:n"}},
		{"H1 A1", []string{"0-1 2: 1 s:n", "0-1 1: 1 w:n", "0-2 1: 1 w:n r:n", "1-2 2: 1 s:n"}},
		{"B1 C1 D1", nil},
		{"B1 C1", []string{"0-2 11: 0=0 s:nfr s:f"}},
		{"B1 D1 F1", []string{"0-3 3: 0 s:nfr r:r c:good"}},
		{"A1 C1 D1", []string{"0-3 9: 0 s:n s:f s:r"}},
		{"D1 A1", nil},
		{"A1 D1 A1", nil},
		{"", nil},
	} {
		got, e := read.Forest(h, line(t, h, c.codes))
		expectEdges(t, "Forest of "+c.codes, got, e, c.want...)
	}
}

// P6.2
func TestCertain(t *testing.T) {
	h := example(t)
	for _, c := range []struct {
		codes string
		want  []string
	}{
		{"A1 H1", []string{"0-1 2: 1 s:n"}},
		{"H1 A1", nil},
		{"A1 H1 A1", []string{"0-1 2: 1 s:n"}},
		{"H1 A1 B1", []string{"2-3 7: 0 s:nfr"}},
		{"A1 H1 B1 F1 H1", []string{"0-1 2: 1 s:n", "2-4 3: 0 s:nfr c:good"}},
		{"B1 D1 F1 B1 C1", []string{"0-3 3: 0 s:nfr r:r c:good", "3-5 11: 0=0 s:nfr s:f"}},
		{"", nil},
	} {
		got, e := read.Certain(h, line(t, h, c.codes))
		expectEdges(t, "Certain of "+c.codes, got, e, c.want...)
	}
	for _, codes := range []string{"B1 C1 D1", "D1", "D1 A1", "A1 D1"} {
		got, e := read.Certain(h, line(t, h, codes))
		expectError(t, "Certain of "+codes, got, e, api.ErrReading)
	}
}

// P6.2
func TestReach(t *testing.T) {
	h := example(t)
	for codes, want := range map[string]int{"": 0, "A1": 1, "D1": 0, "B1 C1 D1": 2, "A1 H1": 2, "A1 D1 A1": 1, "A1 C1 D1": 3, "A1 C1 G1": 2, "B1 D1 F1 D1": 3, "A1 C1 D1 F1 G1 A1": 4, "D1 A1 A1": 0, "H1 A1 A1 D1": 3} {
		if n, e := read.Reach(h, line(t, h, codes)); n != want || e != api.OK {
			t.Errorf("Reach of %s = %d, %d, want %d", codes, n, e, want)
		}
	}
	a1 := line(t, h, "A1")
	for _, n := range []int{1, 59, 60} {
		if got, e := read.Reach(h, slices.Repeat(a1, n)); got != n || e != api.OK {
			t.Errorf("Reach of %d signs = %d, %d", n, got, e)
		}
	}
}

// P6.3: how many readings there are, and that the number stays at MaxCount.
func TestCount(t *testing.T) {
	h := example(t)
	for codes, want := range map[string]int{"": 1, "A1": 1, "D1": 0, "A1 H1": 2, "H1 A1": 3, "B1 C1 D1": 0, "A1 D1": 0, "D1 A1": 0, "H1": 2, "H1 H1": 5, "H1 H1 H1": 12} {
		if n, e := read.Count(h, line(t, h, codes)); n != want || e != api.OK {
			t.Errorf("Count of %s = %d, %d, want %d", codes, n, e, want)
		}
	}
	two := house(t, "periods 1\nA 1x1 s:a@1-1\nB 1x1 s:b@1-1\nC 1x1\n", "word a 1 - 0\nword a 2 - 0\nword b 1 - 0\nword b 2 - 0\nword b 3 - 0\n", api.Costs{})
	for codes, want := range map[string]int{
		strings.Repeat("A ", 39): 1 << 39, strings.Repeat("A ", 40): 1 << 40, strings.Repeat("A ", 41): 1 << 40, strings.Repeat("A ", 60): 1 << 40, strings.Repeat("A ", 59) + "C": 0, "C" + strings.Repeat(" A", 59): 0,
		strings.Repeat("B ", 25): 847288609443, strings.Repeat("B ", 26): 1 << 40, strings.Repeat("A ", 38) + "B": 3 << 38, strings.Repeat("A ", 39) + "B": 1 << 40, "B " + strings.Repeat("A ", 39): 1 << 40,
	} {
		if n, e := read.Count(two, line(t, two, codes)); n != want || e != api.OK {
			t.Errorf("Count of %s = %d, %d, want %d", codes, n, e, want)
		}
	}
}

// P6.4
func TestProve(t *testing.T) {
	h := example(t)
	for codes, want := range map[string][]int{
		"": {0}, "A1": {2, 0}, "D1": {-1, 0}, "A1 H1": {3, 1, 0}, "H1 A1": {1, 2, 0}, "B1 C1 D1": {-1, -1, -1, 0}, "B1 D1 F1": {3, -1, -1, 0}, "D1 A1 H1": {-1, 3, 1, 0}, "A1 D1 H1": {-1, -1, 1, 0}, "A1 C1 D1 F1": {5, -1, -1, -1, 0}, "B1 F1 C1": {7, -1, -1, 0},
	} {
		if got, e := read.Prove(h, line(t, h, codes)); !slices.Equal(got, want) || e != api.OK {
			t.Errorf("Prove of %s = %v, %d, want %v", codes, got, e, want)
		}
	}
	free := house(t, "periods 1\nA 1x1 s:a@1-1\n", "word a 1 - 0\nword aa 1 - 0\n", api.Costs{})
	if got, e := read.Prove(free, slices.Repeat([]int{0}, 60)); !slices.Equal(got, make([]int, 61)) || e != api.OK {
		t.Errorf("Prove of words without costs = %v, %d", got, e)
	}
}

// P6.4
func TestProves(t *testing.T) {
	h := example(t)
	const most = 1<<63 - 1
	for _, c := range []struct {
		codes string
		table []int
		cost  int
		want  bool
	}{
		{"A1 H1", []int{3, 1, 0}, 3, true}, {"A1 H1", []int{3, 1, 0}, 4, false}, {"A1 H1", []int{3, 1, 0}, 2, true}, {"A1 H1", []int{3, 1, 0}, -5, true}, {"A1 H1", []int{3, 1, 0}, -1 << 63, true}, {"A1 H1", []int{3, 1, 0}, most, false},
		{"A1 H1", []int{2, 1, 0}, 2, true}, {"A1 H1", []int{2, 1, 0}, 3, false}, {"A1 H1", []int{2, 0, 0}, 2, true}, {"A1 H1", []int{3, 0, 0}, 2, false}, {"A1 H1", []int{0, 0, 0}, 0, true}, {"A1 H1", []int{0, 0, 0}, 1, false},
		{"A1 H1", []int{3, 2, 0}, 3, false}, {"A1 H1", []int{4, 1, 0}, 3, false}, {"A1 H1", []int{3, 1, 1}, 3, false}, {"A1 H1", []int{3, 1, -1}, 3, false}, {"A1 H1", []int{-1, -1, -1}, 3, false},
		{"A1 H1", []int{-1, 1, 0}, 3, false}, {"A1 H1", []int{3, -1, 0}, 3, false}, {"A1 H1", []int{-1, -1, 0}, 3, false}, {"A1 H1", []int{3, -2, 0}, 3, false}, {"A1 H1", []int{-2, 1, 0}, -3, false}, {"A1 H1", []int{-1 << 63, 1, 0}, -1 << 63, false},
		{"A1 H1", nil, 0, false}, {"A1 H1", []int{3, 1}, 3, false}, {"A1 H1", []int{3, 1, 0, 0}, 3, false}, {"A1 H1", []int{1, 0}, 1, false},
		{"H1 A1", []int{1, 2, 0}, 1, true}, {"H1 A1", []int{1, 2, 0}, 2, false}, {"H1 A1", []int{2, 2, 0}, 2, false}, {"H1 A1", []int{1, 0, 0}, 1, true}, {"H1 A1", []int{2, 0, 0}, 1, false},
		{"B1 C1 D1", []int{-1, -1, -1, 0}, most, true}, {"B1 C1 D1", []int{-1, -1, -1, 0}, 0, true}, {"B1 C1 D1", []int{11, 5, 0, 0}, 11, true}, {"B1 C1 D1", []int{11, 5, 0, 0}, 12, false}, {"B1 C1 D1", []int{12, 5, 1, 0}, 12, true},
		{"B1 C1 D1", []int{17, 10, 6, 0}, 17, true}, {"B1 C1 D1", []int{18, 10, 6, 0}, 18, false}, {"B1 C1 D1", []int{7, 0, -1, 0}, 7, true}, {"B1 C1 D1", []int{-1, 0, -1, 0}, 7, false}, {"B1 C1 D1", []int{-1, -1, 0, 0}, 7, false},
		{"B1 C1 D1", []int{most, most, most, 0}, most, true}, {"B1 C1 D1", []int{most, most - 7, most - 11, 0}, most, true}, {"B1 C1 D1", []int{most, most - 8, most, 0}, most, false}, {"B1 C1 D1", []int{most, most, most - 12, 0}, most, false}, {"B1 C1 D1", []int{0, most, most, 0}, 0, true},
		{"D1", []int{-1, 0}, 100, true}, {"D1", []int{100, 0}, 100, true}, {"D1", []int{99, 0}, 100, false}, {"D1", []int{most, 0}, most, true},
		{"", []int{0}, 0, true}, {"", []int{0}, 1, false}, {"", []int{0}, -1, true}, {"", []int{-1}, 0, false}, {"", []int{1}, 0, false}, {"", nil, 0, false}, {"", []int{0, 0}, 0, false},
	} {
		if got, e := read.Proves(h, line(t, h, c.codes), c.table, c.cost); got != c.want || e != api.OK {
			t.Errorf("Proves of %s, %v, %d = %v, %d", c.codes, c.table, c.cost, got, e)
		}
	}
}

// meet are the edges that are in all of some readings, in ascending order.
func meet(h api.House, readings []api.Reading) []api.Edge {
	common := edgesIn(h, readings[0])
	for _, r := range readings[1:] {
		edges := edgesIn(h, r)
		common = slices.DeleteFunc(common, func(a api.Edge) bool {
			return !slices.ContainsFunc(edges, func(b api.Edge) bool { return sameEdge(a, b) })
		})
	}
	return common
}

// join are the edges that are in one of some readings, in order.
func join(h api.House, readings []api.Reading) []api.Edge {
	var all []api.Edge
	for _, r := range readings {
		all = append(all, edgesIn(h, r)...)
	}
	slices.SortFunc(all, func(a, b api.Edge) int {
		if a.From != b.From {
			return a.From - b.From
		}
		return compareWords(a.Word, b.Word)
	})
	return slices.CompactFunc(all, sameEdge)
}

// reachOf is the greatest place up to which words lead from a place on.
func reachOf(edges [][]api.Edge, at int) int {
	reach := at
	for _, d := range edges[at] {
		reach = max(reach, reachOf(edges, d.To))
	}
	return reach
}

// P6.2 to P6.4: all readings, said again.
func TestReadingsSaidAgain(t *testing.T) {
	read64, unread := 0, 0
	for seed, c := range map[dice]struct{ rolls, values, signs int }{4: {1500, 2, 5}, 5: {1000, 5, 3}, 6: {400, 3, 5}, 7: {500, 1, 8}} {
		d := seed
		for range c.rolls {
			h := d.roll(c.values)
			l := d.line(h.List, c.signs)
			edges := edgesOf(h, l)
			readings := readingsOf(edges, 0)
			if len(readings) > 10000 {
				continue
			}
			if len(readings) > 64 {
				read64++
			}
			if len(readings) == 0 {
				unread++
			}
			checkReadings(t, h, l, 1+d.below(64), readings)
			checkTable(t, h, l, edges)
		}
	}
	if read64 < 80 || unread < 500 {
		t.Errorf("%d lines have more than 64 readings, %d have none", read64, unread)
	}
}

func checkReadings(t *testing.T, h api.House, l []int, most int, want []api.Reading) {
	t.Helper()
	if n, e := read.Count(h, l); n != len(want) || e != api.OK {
		t.Fatalf("Count in %v of %v = %d, %d, want %d", h, l, n, e, len(want))
	}
	forest, e := read.Forest(h, l)
	if e != api.OK || !slices.EqualFunc(forest, join(h, want), sameEdge) {
		t.Fatalf("Forest in %v of %v = %v, %d, want %v", h, l, forest, e, join(h, want))
	}
	list, e := read.List(h, l, most)
	best, e2 := read.Best(h, l)
	certain, e3 := read.Certain(h, l)
	if len(want) == 0 {
		expectError(t, "List", list, e, api.ErrReading)
		expectError(t, "Best", best, e2, api.ErrReading)
		expectError(t, "Certain", certain, e3, api.ErrReading)
		return
	}
	if e != api.OK || !slices.EqualFunc(list, want[:min(most, len(want))], sameReading) {
		t.Fatalf("List in %v of %v, %d = %v, %d, want %v", h, l, most, list, e, want)
	}
	if e2 != api.OK || !sameReading(best, want[0]) {
		t.Fatalf("Best in %v of %v = %v, %d, want %v", h, l, best, e, want[0])
	}
	if e3 != api.OK || !slices.EqualFunc(certain, meet(h, want), sameEdge) {
		t.Fatalf("Certain in %v of %v = %v, %d, want %v", h, l, certain, e, meet(h, want))
	}
}

func sameReading(a, b api.Reading) bool { return compareReadings(a, b) == 0 }

func checkTable(t *testing.T, h api.House, l []int, edges [][]api.Edge) {
	t.Helper()
	if n, e := read.Reach(h, l); n != reachOf(edges, 0) || e != api.OK {
		t.Fatalf("Reach in %v of %v = %d, %d, want %d", h, l, n, e, reachOf(edges, 0))
	}
	table, e := read.Prove(h, l)
	if len(table) != len(edges) || e != api.OK {
		t.Fatalf("Prove in %v of %v = %v, %d", h, l, table, e)
	}
	for at, least := range table {
		want := -1
		if readings := readingsOf(edges, at); len(readings) > 0 {
			want = readings[0].Cost
		}
		if least != want {
			t.Fatalf("Prove in %v of %v = %v, want %d at %d", h, l, table, want, at)
		}
	}
}
