package induce_test

import (
	"slices"
	"strings"
	"testing"

	"ostracon/api"
	"ostracon/induce"
	"ostracon/lexicon"
)

// entries are entries of the kind 1 with the weight 1, written as "fr/good".
func entries(text string) []api.Entry {
	var all []api.Entry
	for field := range strings.FieldsSeq(text) {
		root, class, _ := strings.Cut(field, "/")
		all = append(all, api.Entry{Root: root, Kind: 1, Class: class, Weight: 1})
	}
	return all
}

// P10.4
func TestPropose(t *testing.T) {
	h, _ := example(t)
	for _, x := range []struct {
		lines []string
		want  string
	}{
		{[]string{"A1 C1 D1 F1"}, "fr/good nfr/good r/good"},
		{[]string{"B1 F1", "A1 E1", "A1 C1 D1 F1"}, "fr/good nfr/good r/good"},
		{[]string{"F1 F1", "E1 F1", "F1", "", "F1 A1 B1"}, ""},
		{nil, ""},
		{[]string{"G1 A1 C1 D1 D1 F1"}, "frr/good nfrr/good r/good rr/good"}, // not all five
		{[]string{"A1 E1 D1 F1 C1"}, "r/good"},                               // E1 has no sounds
		{[]string{"A1 F1 D1 C1 F1"}, "f/good n/good rf/good"},                // nor has F1
		{[]string{"B1 B1 A1 F1"}, "n/good nfrn/good nfrnfrn/good"},           // of 7 sounds
		{[]string{"D1 B1 B1 A1 F1"}, "n/good nfrn/good nfrnfrn/good rnfrnfrn/good"},
		{[]string{"B1 B1 B1 F1"}, "nfr/good nfrnfr/good"}, // 9 sounds are too many
		{[]string{"A1 F1", "A1 A1 F1", "H1 F1"}, "n/good nn/good"},
	} {
		got, e := induce.Propose(h.List, 1, lines(t, h, x.lines...))
		expect(t, "Propose of "+strings.Join(x.lines, ", "), got, e, entries(x.want))
	}
}

// P10.4: every value is taken that is in use in the period, of sounds and of
// classes alone.
func TestProposeByValues(t *testing.T) {
	h := house(t, "A 1x1 s:b@1-1 s:a@1-1 w:ab@1-1 s:abab@1-1\nB 1x1 s:c@1-1 c:k@1-1 s:cc@1-1\nC 1x1 c:m@1-1 c:k@1-1 w:d@1-1\nD 1x1 s:B@1-1\n", "", api.Costs{})
	for _, x := range []struct{ line, want string }{
		{"A C", "a/k a/m abab/k abab/m b/k b/m"},
		{"A B", "a/k abab/k b/k"},
		{"B B B", "c/k cc/k ccc/k cccc/k"},
		{"B C A", "c/k c/m cc/k cc/m"},
		{"A A B A", "a/k aa/k aabab/k ab/k abab/k ababa/k abababab/k ababb/k b/k ba/k babab/k bb/k"},
		{"D A B", "Ba/k Babab/k Bb/k a/k abab/k b/k"}, // capital letters come first
		{"D B", "B/k"},
	} {
		got, e := induce.Propose(h.List, 1, lines(t, h, x.line))
		expect(t, "Propose of "+x.line, got, e, entries(x.want))
	}
	h.List.Periods = 3
	for i, from := range []int{1, 2, 3} {
		h.List.Signs[0].Values[i].From, h.List.Signs[0].Values[i].To = from, from
	}
	h.List.Signs[0].Values[3].From, h.List.Signs[0].Values[3].To = 2, 3
	h.List.Signs[2].Values[0].To = 3
	for period, want := range []string{1: "b/k b/m", 2: "a/m abab/m", 3: "abab/m"} {
		if period > 0 {
			got, e := induce.Propose(h.List, period, lines(t, h, "A C"))
			expect(t, "Propose", got, e, entries(want))
		}
	}
}

// P10.4
func TestProposeAsTold(t *testing.T) {
	d := dice(9)
	found := 0
	for range 1000 {
		l := d.rollList()
		var corpus [][]int
		for range d.below(5) {
			corpus = append(corpus, d.line(l, 9))
		}
		period := 1 + d.below(l.Periods)
		want := proposed(proposalsOf(l, period, corpus))
		got, e := induce.Propose(l, period, corpus)
		if len(want) > api.MaxWords {
			expectError(t, "Propose", got, e, api.ErrMany)
			continue
		}
		expect(t, "Propose", got, e, want)
		found += len(want)
	}
	if found < 1000 {
		t.Errorf("only %d entries were proposed", found)
	}
}

// crowd is a list of two signs with ten sounds each, two with a class, one with ten
// classes, and one with one more sound.
func crowd() api.List {
	value := func(kind int, letter byte) api.Value {
		return api.Value{Kind: kind, Text: string([]byte{letter}), From: 1, To: 1}
	}
	all := make([]api.Sign, 6)
	for i := range byte(10) {
		all[0].Values = append(all[0].Values, value(api.Sound, 'a'+i))
		all[1].Values = append(all[1].Values, value(api.Sound, 'A'+i))
		all[4].Values = append(all[4].Values, value(api.Class, 'a'+i))
	}
	all[2].Values = []api.Value{value(api.Class, 'a')}
	all[3].Values = []api.Value{value(api.Class, 'k')}
	all[5].Values = []api.Value{value(api.Sound, 'z')}
	for i := range all {
		all[i].Code, all[i].Wide, all[i].High = string([]byte{'A' + byte(i)}), 1, 1
	}
	return api.List{Periods: 1, Signs: all}
}

// P10.4: at most MaxWords different entries are proposed.
func TestProposeOfMany(t *testing.T) {
	l := crowd()
	full := [][]int{{0, 4}, {1, 4, 0}, {0, 2, 1, 2}, {1, 4}} // ten sounds with ten classes, twice
	got, e := induce.Propose(l, 1, full)
	if e != api.OK || len(got) != api.MaxWords || !lexiconValid(got) {
		t.Errorf("Propose are %d, %d", len(got), e)
	}
	expect(t, "Propose", got, e, proposed(proposalsOf(l, 1, full)))
	for _, line := range [][]int{{5, 3}, {2, 5, 2}, {0, 3}, {0, 1, 4}, {2, 1, 0, 3}} {
		got, e = induce.Propose(l, 1, append(slices.Clip(full), line))
		expectError(t, "Propose of more", got, e, api.ErrMany)
		got, e = induce.Propose(l, 1, append([][]int{line}, full...))
		expectError(t, "Propose of more", got, e, api.ErrMany)
	}
	for _, few := range [][][]int{{{0, 1, 2}}, {{0, 2}, {1, 3}}, slices.Repeat([][]int{{0, 1, 2}}, api.MaxCorpus)} {
		got, e = induce.Propose(l, 1, few)
		expect(t, "Propose", got, e, proposed(proposalsOf(l, 1, few)))
	}
	for _, many := range [][][]int{{{0, 1, 0, 1, 2}}, {slices.Repeat([]int{0, 1, 0, 1, 4}, 12)}, slices.Repeat([][]int{slices.Repeat([]int{0, 0, 0, 4}, 15)}, api.MaxCorpus)} {
		got, e = induce.Propose(l, 1, many)
		expectError(t, "Propose of very many", got, e, api.ErrMany)
	}
}

func lexiconValid(entries []api.Entry) bool {
	return lexicon.Check(api.Lexicon{Entries: entries}) == api.OK
}

// P10.4
func TestErrorsOfPropose(t *testing.T) {
	h, corpus := example(t)
	many := make([][]int, api.MaxCorpus+1)
	double := h.List
	double.Signs = append(slices.Clip(double.Signs), double.Signs[0])
	for _, x := range []struct {
		list   api.List
		period int
		corpus [][]int
		want   api.Errno
	}{
		{double, 2, many, api.ErrCode},
		{double, 1, nil, api.ErrCode},
		{api.List{}, 0, nil, api.ErrPeriod},
		{api.List{Periods: 10}, 1, nil, api.ErrPeriod},
		{h.List, 0, corpus, api.ErrPeriod},
		{h.List, -1, nil, api.ErrPeriod},
		{h.List, 2, many, api.ErrPeriod},
		{h.List, 2, [][]int{odd()}, api.ErrPeriod},
		{h.List, 1, many, api.ErrMany},
		{h.List, 1, slices.Repeat([][]int{odd()}, api.MaxCorpus+1), api.ErrMany},
		{h.List, 1, [][]int{odd()}, api.ErrSign},
		{h.List, 1, [][]int{{8}}, api.ErrSign},
		{h.List, 1, [][]int{nil, {0, 5, 8}}, api.ErrSign},
		{h.List, 1, [][]int{long()}, api.ErrMany},
		{h.List, 1, [][]int{append(long(), -1)}, api.ErrMany},
		{h.List, 1, [][]int{odd(), long()}, api.ErrSign},
		{h.List, 1, [][]int{long(), odd()}, api.ErrMany},
		{h.List, 1, [][]int{slices.Repeat([]int{8}, api.MaxLine)}, api.ErrSign},
		{api.List{Periods: 1}, 1, [][]int{{0}}, api.ErrSign},
		{crowd(), 1, [][]int{{0, 1, 0, 4}, odd()}, api.ErrSign},
	} {
		got, e := induce.Propose(x.list, x.period, x.corpus)
		expectError(t, "Propose", got, e, x.want)
	}
	got, e := induce.Propose(h.List, 1, many[1:])
	expect(t, "Propose of lines without signs", got, e, nil)
	got, e = induce.Propose(h.List, 1, slices.Repeat([][]int{slices.Repeat([]int{0, 5}, api.MaxLine/2)}, api.MaxCorpus))
	expect(t, "Propose of full lines", got, e, entries("n/good"))
}
