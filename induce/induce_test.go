package induce_test

import (
	"slices"
	"strings"
	"testing"

	"ostracon/api"
	"ostracon/induce"
	"ostracon/lexicon"
)

// P10.2
func TestInduce(t *testing.T) {
	h, corpus := example(t)
	got, e := induce.Induce(h, corpus)
	expect(t, "Induce", got, e, []api.Needed{need(0, 0, 1), need(1, 2)})
	got, e = induce.Induce(h, corpus[:1])
	expect(t, "Induce of one line", got, e, []api.Needed{need(0, 0)})
	got, e = induce.Induce(h, lines(t, h, "A1 C1 D1", "D1"))
	expect(t, "Induce of other lines", got, e, []api.Needed{need(0, 0), need(3, 1)})
	got, e = induce.Induce(h, lines(t, h, "D1 D1", "", "A1", "D1"))
	expect(t, "Induce of lines that need the same", got, e, []api.Needed{need(1, 2), need(3, 0, 3)})
	for _, corpus := range [][][]int{nil, {nil}, make([][]int, api.MaxCorpus)} {
		got, e = induce.Induce(h, corpus)
		expect(t, "Induce of nothing", got, e, nil)
	}
}

// P10.2: the last one of entries that do the same is left out first, even if more
// of the others are left then.
func TestInduceFromTheLast(t *testing.T) {
	for _, x := range []struct {
		roots, line string
		want        []api.Needed
	}{
		{"a/1 a/2 a/3", "A", []api.Needed{need(0, 0)}},
		{"a b ab", "A B", []api.Needed{need(0, 0), need(1, 0)}},
		{"ab a b", "A B", []api.Needed{need(0, 0)}},
		{"a ab b", "A B", []api.Needed{need(1, 0)}},
		{"c a c/2 b ab", "A B", []api.Needed{need(1, 0), need(3, 0)}},
		{"ab a b", "A B A", []api.Needed{need(0, 0), need(1, 0)}},
	} {
		h := plain(t, "A B C", x.roots)
		got, e := induce.Induce(h, lines(t, h, x.line))
		expect(t, "Induce of "+x.line+" by "+x.roots, got, e, x.want)
	}
}

// P10.2
func TestInduceAsTold(t *testing.T) {
	d := dice(4)
	left, tried := map[int]int{}, 0
	for range 1500 {
		h := d.roll()
		corpus := d.lines(h, 5)
		if !allReadable(h, corpus, upTo(len(h.Lexicon.Entries))) {
			got, e := induce.Induce(h, corpus)
			expectError(t, "Induce", got, e, api.ErrReading)
			continue
		}
		want := thinned(h, corpus)
		got, e := induce.Induce(h, corpus)
		expect(t, "Induce", got, e, want)
		left[len(want)]++
		tried++
	}
	if tried < 500 || left[2] < 100 || left[3] < 30 {
		t.Errorf("of %d corpora %d and %d needed 2 and 3 entries", tried, left[2], left[3])
	}
}

// P10.2, P10.4
func TestNoReading(t *testing.T) {
	h, corpus := example(t)
	for _, corpus := range [][][]int{
		lines(t, h, "D1 D1 G1"), lines(t, h, "A1", "G1"), append(corpus, []int{6}), append(lines(t, h, "B1 C1 D1 D1 F1"), corpus...),
	} {
		list, e := induce.Induce(h, corpus)
		expectError(t, "Induce", list, e, api.ErrReading)
		small, e := induce.Smallest(h, corpus)
		expectError(t, "Smallest", small, e, api.ErrReading)
		x, list, e := induce.Dictionary(h, corpus)
		expectError(t, "Dictionary", x, e, api.ErrReading)
		expectError(t, "Dictionary", list, e, api.ErrReading)
	}
	h.Lexicon.Entries = nil
	list, e := induce.Induce(h, corpus)
	expectError(t, "Induce without entries", list, e, api.ErrReading)
	list, e = induce.Induce(h, [][]int{nil})
	expect(t, "Induce without entries of a line without signs", list, e, nil)
}

// P10.2
func TestSmallest(t *testing.T) {
	h, corpus := example(t)
	got, e := induce.Smallest(h, corpus)
	expect(t, "Smallest", got, e, []int{0, 1})
	got, e = induce.Smallest(h, corpus[2:])
	expect(t, "Smallest of one line", got, e, []int{1})
	got, e = induce.Smallest(h, nil)
	expect(t, "Smallest of nothing", got, e, nil)
	got, e = induce.Smallest(h, [][]int{nil, nil})
	expect(t, "Smallest of lines without signs", got, e, nil)
	for _, x := range []struct {
		roots, lines string
		want         []int
	}{
		{"a/1 a/2 a/3", "A", []int{0}},
		{"a b ab", "A B", []int{2}},
		{"ab/2 a b ab", "A B", []int{0}},
		{"c c/2 c/3 b b/2 a", "A B C", []int{0, 3, 5}},
		{"c a/1 a/2 b b/2 ab", "A B", []int{5}},
		{"a b abc bc c", "A B C", []int{2}},
		{"a b c ab bc", "A B C", []int{0, 4}},
		{"b ab a bc c", "A B C", []int{1, 4}},
		{"a ab b bc c", "A B C,A,B,C", []int{0, 2, 4}},
		{"ab a b/2 b/1", "A B,A,B", []int{1, 2}},
	} {
		h := plain(t, "A B C", x.roots)
		got, e := induce.Smallest(h, lines(t, h, strings.Split(x.lines, ",")...))
		expect(t, "Smallest of "+x.lines+" by "+x.roots, got, e, x.want)
	}
}

// P10.2
func TestSmallestAsTold(t *testing.T) {
	d := dice(5)
	sizes := map[int]int{}
	for range 800 {
		h := d.roll()
		corpus := d.lines(h, 5)
		want, ok := fewest(h, corpus)
		got, e := induce.Smallest(h, corpus)
		if !ok {
			expectError(t, "Smallest", got, e, api.ErrReading)
			continue
		}
		expect(t, "Smallest", got, e, want)
		sizes[len(want)]++
	}
	if sizes[1] < 50 || sizes[2] < 50 || sizes[3] < 20 {
		t.Errorf("the choices had these sizes: %v", sizes)
	}
}

// pairs are two words of each of eight sounds.
const pairs = "a b c d e f g h a/2 b/2 c/2 d/2 e/2 f/2 g/2 h/2"

// P10.2: of the entries that can be left out at most MaxInduce may be in readings;
// those that are needed, and those whose words no signs spell, do not count.
func TestOpenEntries(t *testing.T) {
	for _, x := range []struct {
		what, roots string
		want        []int
	}{
		{"two words of each sound", pairs + " z", []int{0, 1, 2, 3, 4, 5, 6, 7, 16}},
		{"others that are not spelled", "x ba " + pairs + " cb/3 zz z", []int{2, 3, 4, 5, 6, 7, 8, 9, 20}},
		{"one more of a sound", "h/3 z " + pairs, nil},
		{"one of two sounds", "z " + pairs + " gh", nil},
	} {
		h := plain(t, "A B C D E F G H Z", x.roots)
		got, e := induce.Smallest(h, lines(t, h, "A B C Z", "C D E", "F G H Z"))
		if x.want == nil {
			expectError(t, "Smallest with "+x.what, got, e, api.ErrMany)
		} else {
			expect(t, "Smallest with "+x.what, got, e, x.want)
		}
		got, e = induce.Smallest(h, lines(t, h, "Z"))
		if e != api.OK || len(got) != 1 || h.Lexicon.Entries[got[0]].Root != "z" {
			t.Errorf("Smallest of one line with %s = %v, %d", x.what, got, e)
		}
	}
}

// P10.2: a word that signs spell is in no reading if the line cannot be read
// before it, or behind it.
func TestWordsInNoReading(t *testing.T) {
	h := plain(t, "A B C D E F G H Z", pairs+" zb ab bc")
	h.List.Signs = append(h.List.Signs, api.Sign{Code: "K", Wide: 1, High: 1, Values: []api.Value{{Kind: api.Class, Text: "k", From: 1, To: 1}}})
	h.Lexicon.Entries = append(h.Lexicon.Entries, api.Entry{Root: "b", Kind: 3, Class: "k"})
	all := lines(t, h, "A B K", "Z B C", "B", "D E F", "G H")
	want := []int{0, 2, 3, 4, 5, 6, 7, 16, 19}
	got, e := induce.Smallest(h, all)
	expect(t, "Smallest", got, e, want)
	for _, more := range []string{"A B", "B C"} {
		got, e = induce.Smallest(h, append(slices.Clip(all), lines(t, h, more)...))
		expectError(t, "Smallest with "+more, got, e, api.ErrMany)
	}
	got, e = induce.Smallest(h, append(slices.Clip(all), lines(t, h, "E F", "F B K", "Z B", "H C")...))
	expect(t, "Smallest of more lines", got, e, want)
}

// couples is a house of sixteen words of one sound each, with a sign for each two
// of them that spells both sounds, and these signs by the words.
func couples(t *testing.T) (api.House, [api.MaxInduce][api.MaxInduce]int) {
	h := plain(t, "", "a b c d e f g h i j k l m n o p")
	var both [api.MaxInduce][api.MaxInduce]int
	for i := range api.MaxInduce {
		for j := range i {
			s := api.Sign{Code: "S" + string([]byte{'a' + byte(i), 'a' + byte(j)}), Wide: 1, High: 1}
			for _, word := range []int{i, j} {
				s.Values = append(s.Values, api.Value{Kind: api.Sound, Text: h.Lexicon.Entries[word].Root, From: 1, To: 1})
			}
			both[i][j], both[j][i] = len(h.List.Signs), len(h.List.Signs)
			h.List.Signs = append(h.List.Signs, s)
		}
	}
	return h, both
}

// P10.2: as many entries are open as may be.
func TestSmallestOfSixteen(t *testing.T) {
	h, both := couples(t)
	var circle [][]int
	for i := range api.MaxInduce {
		circle = append(circle, []int{both[i][(i+1)%api.MaxInduce]})
	}
	got, e := induce.Smallest(h, circle)
	expect(t, "Smallest of a circle", got, e, []int{0, 2, 4, 6, 8, 10, 12, 14})
	got, e = induce.Smallest(h, circle[:15])
	expect(t, "Smallest of a row", got, e, []int{0, 2, 4, 6, 8, 10, 12, 14})
	got, e = induce.Smallest(h, circle[1:15])
	expect(t, "Smallest of a shorter row", got, e, []int{2, 4, 6, 8, 10, 12, 14})

	corpus := slices.Repeat([][]int{upTo(60)}, api.MaxCorpus-1)
	corpus = append(corpus, upTo(120)[60:])
	got, e = induce.Smallest(h, corpus)
	expect(t, "Smallest of all couples", got, e, upTo(15))
}

// P10.1 to P10.4: as many entries as there may be.
func TestManyEntries(t *testing.T) {
	h := house(t, "A 1x1 s:a@1-1\nB 1x1 s:b@1-1\nC 1x1 s:c@1-1\n", "", api.Costs{})
	for i := range api.MaxWords {
		root := "c" + string([]byte{'a' + byte(i/26), 'a' + byte(i%26)})
		switch i {
		case 0:
			root = "a"
		case api.MaxWords - 1:
			root = "b"
		}
		h.Lexicon.Entries = append(h.Lexicon.Entries, api.Entry{Root: root, Kind: 1})
	}
	corpus := lines(t, h, "A", "B", "C C A", "A B")
	want := []api.Needed{need(0, 0, 3), need(52, 2), need(api.MaxWords-1, 1, 3)}
	list, e := induce.Induce(h, corpus)
	expect(t, "Induce", list, e, want)
	keep, e := induce.Smallest(h, corpus)
	expect(t, "Smallest", keep, e, []int{0, 52, api.MaxWords - 1})
	expectError(t, "Check", 0, induce.Check(h, corpus, list), api.OK)
	ok, e := induce.Readable(h, corpus, upTo(api.MaxWords)[1:])
	expect(t, "Readable", ok, e, []bool{false, true, true, false})
	words, e := induce.Places(h, corpus, keep, api.MaxWords-1)
	expect(t, "Places", words, e, places(place(1, 0, 1), place(3, 1, 2)))
	few, e := induce.Only(h, upTo(api.MaxWords))
	expect(t, "Only", few, e, h)
	text, e := induce.Report(h, list)
	expect(t, "Report", text, e, "a: 0 3\ncca: 2\nb: 1 3\n")
}

// P10.4
func TestDictionary(t *testing.T) {
	h, corpus := example(t)
	want := h.Lexicon
	want.Entries = h.Lexicon.Entries[:2]
	x, list, e := induce.Dictionary(h, corpus)
	expect(t, "Dictionary", x, e, want)
	expect(t, "Dictionary", list, e, []api.Needed{need(0, 0, 1), need(1, 2)})
	want.Entries = []api.Entry{h.Lexicon.Entries[1], h.Lexicon.Entries[3]}
	x, list, e = induce.Dictionary(h, lines(t, h, "D1 D1", "A1", "D1"))
	expect(t, "Dictionary", x, e, want)
	expect(t, "Dictionary", list, e, []api.Needed{need(0, 1), need(1, 0, 2)})
	want.Entries = nil
	x, list, e = induce.Dictionary(h, nil)
	expect(t, "Dictionary of nothing", x, e, want)
	expect(t, "Dictionary of nothing", list, e, nil)
}

// P10.4
func TestDictionaryAsTold(t *testing.T) {
	d := dice(6)
	for range 500 {
		h := d.roll()
		corpus := d.lines(h, 5)
		if !allReadable(h, corpus, upTo(len(h.Lexicon.Entries))) {
			continue
		}
		var keep []int
		want := thinned(h, corpus)
		for i := range want {
			keep = append(keep, want[i].Entry)
			want[i].Entry = i
		}
		x, list, e := induce.Dictionary(h, corpus)
		expect(t, "Dictionary", list, e, want)
		if !lexicon.Same(x, few(h, keep).Lexicon) {
			t.Fatalf("Dictionary in %v of %v = %v", h, corpus, x)
		}
	}
}
