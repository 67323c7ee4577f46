package read_test

import (
	"slices"
	"strings"
	"testing"

	"ostracon/api"
	"ostracon/read"
)

func expectWords(t *testing.T, h api.House, codes string, at int, want ...string) {
	t.Helper()
	got, e := read.Words(h, line(t, h, codes), at)
	expectEdges(t, "Words of "+codes, got, e, want...)
}

// P6.2: the words of the chapter's examples.
func TestWordsOfExamples(t *testing.T) {
	h := example(t)
	expectWords(t, h, "B1 C1 D1", 0, "0-1 7: 0 s:nfr", "0-2 11: 0=0 s:nfr s:f")
	expectWords(t, h, "B1 C1 D1", 1)
	expectWords(t, h, "B1 C1 D1", 3)
	expectWords(t, h, "A1 H1", 0, "0-1 2: 1 s:n")
	expectWords(t, h, "A1 H1", 1, "1-2 2: 1 s:n", "1-2 1: 1 w:n")
	expectWords(t, h, "H1 A1", 0, "0-1 2: 1 s:n", "0-1 1: 1 w:n", "0-2 1: 1 w:n r:n")
	expectWords(t, h, "H1 A1 C1", 0, "0-1 2: 1 s:n", "0-1 1: 1 w:n", "0-2 1: 1 w:n r:n", "0-3 5: 1=0 w:n r:n s:f")
	expectWords(t, h, "E1 D1 G1 F1 C1 A1", 0, "0-1 6: 0 w:nfr", "0-2 6: 0 w:nfr r:r", "0-3 8: 0-0 w:nfr r:r s:t", "0-4 4: 0-0 w:nfr r:r s:t c:good", "0-5 8: 0-0=0 w:nfr r:r s:t c:good s:f")
	expectWords(t, h, "", 0)
}

// P6.2: the order of words: number of signs, entry, ending, clitics, and uses.
func TestWordsOrder(t *testing.T) {
	h := house(t, "periods 1\nA 1x1 s:a@1-1\nB 1x1 s:b@1-1\n", "word ab 1 - 0\nword a 1 - 0\nword a 2 - 0\nending 2 b e 0\nending 1 b f 0\nending 2 b g 0\nclitic b h 0\n", api.Costs{})
	expectWords(t, h, "A B", 0, "0-1 0: 1 s:a", "0-1 0: 2 s:a", "0-2 0: 0 s:a s:b", "0-2 0: 1=0 s:a s:b", "0-2 0: 1-1 s:a s:b", "0-2 0: 2=0 s:a s:b", "0-2 0: 2-0 s:a s:b", "0-2 0: 2-2 s:a s:b")
	h = house(t, "periods 1\nA 1x1 s:ab@1-1 w:a@1-1 s:a@1-1 s:abb@1-1 w:abb@1-1\nB 1x1 s:b@1-1 s:bb@1-1 c:x@1-1\n", "word abb 1 x 0\n", api.Costs{})
	expectWords(t, h, "A B", 0, "0-1 0: 0 s:abb", "0-1 0: 0 w:abb", "0-2 0: 0 s:a s:bb", "0-2 0: 0 s:ab s:b", "0-2 0: 0 s:abb r:b", "0-2 0: 0 s:abb r:bb", "0-2 0: 0 s:abb c:x", "0-2 0: 0 w:abb r:b", "0-2 0: 0 w:abb r:bb", "0-2 0: 0 w:abb c:x")
	h = house(t, "periods 1\nA 1x1 s:a@1-1\n", "word a 1 - 0\nclitic a h 0\nclitic a i 0\nclitic a j 0\nclitic a k 0\n", api.Costs{})
	expectWords(t, h, "A A A A A", 0, "0-1 0: 0 s:a",
		"0-2 0: 0=0 s:a s:a", "0-2 0: 0=1 s:a s:a", "0-2 0: 0=2 s:a s:a", "0-2 0: 0=3 s:a s:a",
		"0-3 0: 0=0=1 s:a s:a s:a", "0-3 0: 0=0=2 s:a s:a s:a", "0-3 0: 0=0=3 s:a s:a s:a", "0-3 0: 0=1=2 s:a s:a s:a", "0-3 0: 0=1=3 s:a s:a s:a", "0-3 0: 0=2=3 s:a s:a s:a",
		"0-4 0: 0=0=1=2 s:a s:a s:a s:a", "0-4 0: 0=0=1=3 s:a s:a s:a s:a", "0-4 0: 0=0=2=3 s:a s:a s:a s:a", "0-4 0: 0=1=2=3 s:a s:a s:a s:a")
	h = house(t, "periods 1\nA 1x1 s:a@1-1\nB 1x1 s:b@1-1 s:bb@1-1\n", "word a 1 - 0\nclitic bb h 0\nclitic b i 0\nclitic b j 0\n", api.Costs{})
	expectWords(t, h, "A B B", 0, "0-1 0: 0 s:a", "0-2 0: 0=0 s:a s:bb", "0-2 0: 0=1 s:a s:b", "0-2 0: 0=2 s:a s:b",
		"0-3 0: 0=0 s:a s:b s:b", "0-3 0: 0=0 s:a s:bb r:b", "0-3 0: 0=0 s:a s:bb r:bb", "0-3 0: 0=0=1 s:a s:bb s:b", "0-3 0: 0=0=2 s:a s:bb s:b", "0-3 0: 0=1=2 s:a s:b s:b")
}

// P6.2: the places of Words.
func TestWordsPlaces(t *testing.T) {
	h := example(t)
	l := line(t, h, "A1 H1")
	for _, at := range []int{-1, 3, 64, 65, 1<<63 - 1, -1 << 63} {
		got, e := read.Words(h, l, at)
		expectError(t, "Words", got, e, api.ErrArg)
	}
	got, e := read.Words(h, []int{8}, 2)
	expectError(t, "Words of no sign", got, e, api.ErrSign)
	got, e = read.Words(h, nil, 1)
	expectError(t, "Words behind the end", got, e, api.ErrArg)
	l = slices.Repeat(line(t, h, "H1"), 60)
	got, e = read.Words(h, l, 59)
	expectEdges(t, "Words at the last sign", got, e, "59-60 2: 1 s:n", "59-60 1: 1 w:n")
	got, e = read.Words(h, l, 60)
	expectEdges(t, "Words at the end", got, e)
	got, e = read.Words(h, l, 58)
	expectEdges(t, "Words at the last sign but one", got, e, "58-59 2: 1 s:n", "58-59 1: 1 w:n", "58-60 1: 1 w:n r:n")
}

// P6.2: signs that spell, stand for and repeat as many sounds as one can.
func TestWordsOfLongSounds(t *testing.T) {
	h := house(t, "periods 1\nA 1x1 s:abcdefgh@1-1 w:abcdefgh@1-1\nB 1x1 s:bcdefghi@1-1\nC 1x1 s:a@1-1\nD 1x1 c:abcdefgh@1-1\n", "word abcdefgh 1 abcdefgh 0\nending 1 i x 0\n", api.Costs{})
	expectWords(t, h, "A", 0, "0-1 0: 0 s:abcdefgh", "0-1 0: 0 w:abcdefgh")
	expectWords(t, h, "A A D", 0, "0-1 0: 0 s:abcdefgh", "0-1 0: 0 w:abcdefgh", "0-2 0: 0 s:abcdefgh r:abcdefgh", "0-2 0: 0 w:abcdefgh r:abcdefgh", "0-3 0: 0 s:abcdefgh r:abcdefgh c:abcdefgh", "0-3 0: 0 w:abcdefgh r:abcdefgh c:abcdefgh")
	expectWords(t, h, "C B B D", 0, "0-2 0: 0-0 s:a s:bcdefghi", "0-3 0: 0-0 s:a s:bcdefghi r:bcdefghi", "0-4 0: 0-0 s:a s:bcdefghi r:bcdefghi c:abcdefgh")
}

// P6.2: words have at most MaxUses signs, wherever they begin.
func TestWordsMostUses(t *testing.T) {
	h := house(t, "periods 1\nA 1x1 s:a@1-1\nB 1x1 s:bb@1-1 s:b@1-1\nC 1x1 c:x@1-1\n", "word aaaaaaaa 1 x 0\nending 1 aaaa e 0\nclitic bb f 0\nclitic b g 0\n", api.Costs{})
	single := func(n int) string { return strings.Repeat(" s:a", n) }
	for _, before := range []int{0, 1, 40, 47} {
		l := slices.Concat(slices.Repeat([]int{2}, before), slices.Repeat([]int{0}, 12), []int{2})
		got, e := read.Words(h, l, before)
		from := showEdge(api.Edge{From: before, To: before + 8, Word: word("0" + single(8))})
		to := showEdge(api.Edge{From: before, To: before + 12, Word: word("0-0" + single(12))})
		expectEdges(t, "Words of 12 signs", got, e, from, to)
	}
	expectWords(t, h, strings.Repeat("A ", 8)+"C B B B", 0, "0-8 0: 0"+single(8), "0-9 0: 0"+single(8)+" c:x", "0-10 0: 0=0"+single(8)+" c:x s:bb", "0-10 0: 0=1"+single(8)+" c:x s:b",
		"0-11 0: 0=0"+single(8)+" c:x s:b s:b", "0-11 0: 0=0"+single(8)+" c:x s:bb r:b", "0-11 0: 0=0"+single(8)+" c:x s:bb r:bb", "0-11 0: 0=0=1"+single(8)+" c:x s:bb s:b",
		"0-12 0: 0=0=1"+single(8)+" c:x s:b s:b s:b", "0-12 0: 0=0=1"+single(8)+" c:x s:bb r:b s:b", "0-12 0: 0=0=1"+single(8)+" c:x s:bb r:bb s:b")
	expectWords(t, h, strings.Repeat("A ", 12)+"B", 0, "0-8 0: 0"+single(8), "0-12 0: 0-0"+single(12))
	expectWords(t, h, strings.Repeat("A ", 8)+"C B B B B", 1)
}

// many is a house, and a line that has 40 words at each of 50 places, and one at
// each of some more.
func many(t *testing.T, more int) (api.House, []int) {
	var x strings.Builder
	for i := range 40 {
		x.WriteString("word a 1 " + numbered(i) + " 0\n")
	}
	x.WriteString("word b 1 - 0\n")
	h := house(t, "periods 1\nA 1x1 s:a@1-1\nB 1x1 s:b@1-1\nC 1x1\n", x.String(), api.Costs{})
	return h, slices.Concat(slices.Repeat([]int{0}, 50), slices.Repeat([]int{1}, more))
}

// P6.2 to P6.4: at all places of a line together there are at most MaxEdges words.
func TestManyWords(t *testing.T) {
	h, l := many(t, 0)
	if got := failing(h, l)[1:10]; !slices.Equal(got, make([]api.Errno, 9)) {
		t.Errorf("the errors of a line with 2000 words are %v", got)
	}
	if got, e := read.Forest(h, l); len(got) != 2000 || e != api.OK {
		t.Errorf("Forest has %d words, %d", len(got), e)
	}
	h, l = many(t, 1)
	want := slices.Repeat([]api.Errno{api.ErrMany}, 11)
	want[0], want[1], want[10] = api.ErrUse, api.OK, api.ErrUse
	for range 2 {
		got := failing(h, l)
		got[0], got[10] = want[0], want[10]
		if !slices.Equal(got, want) {
			t.Errorf("the errors of a line with 2001 words are %v", got)
		}
		l = append(l, 2) // words count, whether or not they are in a reading
	}
	if got, e := read.List(h, l, 0); len(got) > 0 || e != api.ErrMany {
		t.Errorf("List of none of too many: %v, %d", got, e)
	}
	if got, e := read.Words(h, l, 0); len(got) != 40 || e != api.OK {
		t.Errorf("Words of a line with too many are %d, %d", len(got), e)
	}
	h, l = many(t, 0)
	l = append(l, 2)
	if n, e := read.Count(h, l); n != 0 || e != api.OK {
		t.Errorf("Count of a line with 2000 words and no reading = %d, %d", n, e)
	}
}

// P6.2: at one place there are at most MaxEdges words.
func TestManyWordsAtPlace(t *testing.T) {
	x := ""
	for i := range 50 {
		x += "word a 1 " + numbered(i) + " 0\n"
	}
	endings := ""
	for i := range 39 {
		endings += "ending 1 b " + numbered(i) + " 0\n"
	}
	list := "periods 1\nA 1x1 s:a@1-1\nB 1x1 s:b@1-1\n"
	h := house(t, list, x+endings, api.Costs{})
	got, e := read.Words(h, []int{0, 1}, 0)
	if len(got) != 2000 || e != api.OK {
		t.Errorf("Words are %d, %d", len(got), e)
	}
	h = house(t, list, x+"word a 2 - 0\n"+endings, api.Costs{})
	got, e = read.Words(h, []int{0, 1}, 0)
	expectError(t, "Words, 2001 of them", got, e, api.ErrMany)
	got, e = read.Words(h, []int{0, 1}, 3)
	expectError(t, "Words behind the end of a line with too many", got, e, api.ErrArg)
	got, e = read.Words(h, []int{0, 1}, 1)
	expectEdges(t, "Words at another place", got, e)
}

// P6.2 and P0.1: many beginnings of words, and hardly a word; many words of one
// form, and many forms with one word.
func TestWordsOfLargest(t *testing.T) {
	var l api.List
	l.Periods = 1
	for i := range 200 {
		s := api.Sign{Code: "A" + numbered(i), Wide: 1, High: 1}
		for n := range 8 {
			s.Values = append(s.Values, api.Value{Kind: api.Sound, Text: strings.Repeat("a", n+1), From: 1, To: 1})
		}
		l.Signs = append(l.Signs, s)
	}
	x := api.Lexicon{}
	for i := range 200 {
		x.Entries = append(x.Entries, api.Entry{Root: "aaaaaaab", Kind: 1, Class: numbered(i)})
	}
	for i := range 40 {
		x.Endings = append(x.Endings, api.Ending{Kind: 1, Text: "aaaa", Name: numbered(i)})
	}
	for i := range 10 {
		x.Clitics = append(x.Clitics, api.Clitic{Text: "aaaa", Name: numbered(i)})
	}
	h := api.House{List: l, Lexicon: x, Period: 1}
	line := slices.Repeat([]int{0, 199, 7}, 20)
	got, e := read.Forest(h, line)
	expectEdges(t, "Forest of beginnings", got, e)
	h.Lexicon.Entries = []api.Entry{{Root: "aaaaaaaa", Kind: 1}}
	got, e = read.Words(h, line, 0)
	expectError(t, "Words of one entry", got, e, api.ErrMany)
	h.Lexicon.Entries = append(x.Entries[1:], api.Entry{Root: "a", Kind: 2})
	h.Lexicon.Clitics = nil
	got, e = read.Words(h, line, 59)
	expectEdges(t, "Words at the last sign", got, e, "59-60 0: 199 s:a")
	if n, e := read.Count(h, line); n != 1 || e != api.OK {
		t.Errorf("Count = %d, %d", n, e)
	}
}

// P6.2: words at all places, said again.
func TestWordsSaidAgain(t *testing.T) {
	for seed, c := range map[dice]struct{ rolls, values, signs, most int }{1: {2000, 2, 6, 6}, 2: {1000, 5, 3, 3}, 3: {1000, 1, 9, 6}} {
		d, most := seed, 0
		for range c.rolls {
			h := d.roll(c.values)
			l := d.line(h.List, c.signs)
			for at, want := range edgesOf(h, l) {
				got, e := read.Words(h, l, at)
				if e != api.OK || !slices.EqualFunc(got, want, sameEdge) {
					t.Fatalf("Words in %v of %v at %d = %v, %d, want %v", h, l, at, got, e, want)
				}
				for _, d := range got {
					most = max(most, len(d.Word.Uses))
				}
			}
		}
		if most < c.most {
			t.Errorf("no word has %d signs", c.most)
		}
	}
}

func sameEdge(a, b api.Edge) bool {
	return a.From == b.From && a.To == b.To && a.Cost == b.Cost && compareWords(a.Word, b.Word) == 0
}
