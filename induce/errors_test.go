package induce_test

import (
	"slices"
	"strconv"
	"testing"

	"ostracon/api"
	"ostracon/induce"
	"ostracon/read"
)

// onCorpus calls each function that has a house and a corpus. Its other arguments
// are not valid, or, if they are to be, are valid for every house with an entry.
func onCorpus(t *testing.T, h api.House, corpus [][]int, valid bool, want api.Errno) {
	t.Helper()
	keep, l := []int{-1}, []api.Needed{need(-1)}
	if valid {
		keep, l = []int{0}, []api.Needed{need(0)}
	}
	ok, e := induce.Readable(h, corpus, keep)
	expectError(t, "Readable", ok, e, want)
	numbers, e := induce.Needs(h, corpus, keep, keep[0])
	expectError(t, "Needs", numbers, e, want)
	places, e := induce.Places(h, corpus, keep, keep[0])
	expectError(t, "Places", places, e, want)
	expectError(t, "Check", 0, induce.Check(h, corpus, l), want)
	list, e := induce.Induce(h, corpus)
	expectError(t, "Induce", list, e, want)
	numbers, e = induce.Smallest(h, corpus)
	expectError(t, "Smallest", numbers, e, want)
	x, list, e := induce.Dictionary(h, corpus)
	expectError(t, "Dictionary", x, e, want)
	expectError(t, "Dictionary", list, e, want)
}

// badHouses are houses that are not valid, with their errors.
func badHouses(t *testing.T) map[api.Errno]api.House {
	all := map[api.Errno]api.House{}
	for _, e := range []api.Errno{api.ErrMany, api.ErrCode, api.ErrWord, api.ErrEnding, api.ErrClitic, api.ErrCosts, api.ErrPeriod} {
		h, _ := example(t)
		switch e {
		case api.ErrMany:
			h.List.Signs = make([]api.Sign, api.MaxSigns+1)
		case api.ErrCode:
			h.List.Signs[7].Code, h.Costs.Open = "A1", -1
		case api.ErrWord:
			h.Lexicon.Entries[3], h.Costs.Open = h.Lexicon.Entries[2], -1
		case api.ErrEnding:
			h.Lexicon.Endings[0].Kind = 10
		case api.ErrClitic:
			h.Lexicon.Clitics[0].Text = ""
		case api.ErrCosts:
			h.Costs.Stand, h.Period = 1001, 2
		case api.ErrPeriod:
			h.Period = 2
		}
		all[e] = h
	}
	return all
}

// P10.1 to P10.4: the errors of the house come first.
func TestErrorsOfHouses(t *testing.T) {
	for want, h := range badHouses(t) {
		if e := read.CheckHouse(h); e != want {
			t.Fatalf("CheckHouse = %d, want %d", e, want)
		}
		for _, corpus := range [][][]int{nil, {odd()}, {long()}, make([][]int, api.MaxCorpus+1)} {
			onCorpus(t, h, corpus, false, want)
		}
		onCorpus(t, h, nil, true, want)
		for _, keep := range [][]int{nil, {0}, {-1}} {
			got, e := induce.Only(h, keep)
			expectError(t, "Only", got, e, want)
		}
		for _, l := range [][]api.Needed{nil, {need(0)}, {need(-1)}, make([]api.Needed, api.MaxWords+1)} {
			got, e := induce.Report(h, l)
			expectError(t, "Report", got, e, want)
		}
	}
}

// P10.1 to P10.3: then come those of the corpus.
func TestErrorsOfLines(t *testing.T) {
	h, corpus := example(t)
	lame := lines(t, h, "D1 D1 G1")[0]
	for _, x := range []struct {
		corpus [][]int
		want   api.Errno
	}{
		{make([][]int, api.MaxCorpus+1), api.ErrMany},
		{slices.Repeat([][]int{odd()}, api.MaxCorpus+1), api.ErrMany},
		{[][]int{odd()}, api.ErrSign},
		{[][]int{{8}}, api.ErrSign},
		{[][]int{{-1}, long()}, api.ErrSign},
		{[][]int{long()}, api.ErrMany},
		{[][]int{long(), {8}}, api.ErrMany},
		{[][]int{append(long(), 8)}, api.ErrMany},
		{[][]int{slices.Repeat([]int{8}, api.MaxLine)}, api.ErrSign},
		{[][]int{corpus[0], lame, {0, 8}}, api.ErrSign},
		{[][]int{lame, corpus[1], long()}, api.ErrMany},
		{slices.Concat(make([][]int, api.MaxCorpus-1), [][]int{odd()}), api.ErrSign},
	} {
		onCorpus(t, h, x.corpus, true, x.want)
		onCorpus(t, h, x.corpus, false, x.want)
	}
}

// homonyms is a house in which one sign spells many words.
func homonyms(t *testing.T, n int) api.House {
	words := ""
	for i := range n {
		words += "word a " + strconv.Itoa(1+i%api.MaxKinds) + " " + string([]byte{'a' + byte(i/api.MaxKinds)}) + " 1\n"
	}
	return house(t, "A 1x1 s:a@1-1\nB 1x1\n", words, api.Costs{})
}

// P10.1 to P10.3: all words that the signs of a line spell count, whatever the
// choice is, and whether or not they are in a reading.
func TestTooManyWords(t *testing.T) {
	h := homonyms(t, 40)
	most := make([]int, api.MaxEdges/40)
	more := append(most, 0)
	lame := append(most, 0, 1)
	onCorpus(t, h, [][]int{more}, true, api.ErrMany)
	onCorpus(t, h, [][]int{lame}, true, api.ErrMany)
	onCorpus(t, h, [][]int{most, more, {9}}, false, api.ErrMany)
	onCorpus(t, h, [][]int{most, {9}, more}, false, api.ErrSign)

	corpus := [][]int{most, nil, append(most, 1)}
	got, e := induce.Readable(h, corpus, []int{39})
	expect(t, "Readable", got, e, []bool{true, true, false})
	lines, e := induce.Needs(h, corpus, []int{39}, 39)
	expect(t, "Needs", lines, e, []int{0})
	list, e := induce.Induce(h, corpus[:2])
	expect(t, "Induce", list, e, []api.Needed{need(0, 0)})
	expectError(t, "Check", 0, induce.Check(h, corpus[:2], []api.Needed{need(20, 0)}), api.OK)
	places, e := induce.Places(h, corpus[:2], []int{20}, 20)
	if e != api.OK || len(places) != len(most) {
		t.Errorf("Places are %d, %d, want %d", len(places), e, len(most))
	}
}
