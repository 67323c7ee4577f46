package read_test

import (
	"slices"
	"strings"
	"testing"

	"ostracon/api"
	"ostracon/read"
)

func expectPrice(t *testing.T, h api.House, codes, w string, want int) {
	t.Helper()
	if cost, e := read.Price(h, line(t, h, codes), word(w)); cost != want || e != api.OK {
		t.Errorf("Price of %s as %s = %d, %d, want %d", codes, w, cost, e, want)
	}
}

func expectNoWord(t *testing.T, h api.House, codes, w string) {
	t.Helper()
	if cost, e := read.Price(h, line(t, h, codes), word(w)); cost != 0 || e != api.ErrUse {
		t.Errorf("Price of %s as %s = %d, %d, want ErrUse", codes, w, cost, e)
	}
}

// expectAll checks the error of Price for lines, each with a word behind " as ".
func expectAll(t *testing.T, h api.House, want api.Errno, cases ...string) {
	t.Helper()
	for _, c := range cases {
		codes, w, _ := strings.Cut(c, " as ")
		if _, e := read.Price(h, line(t, h, codes), word(w)); e != want {
			t.Errorf("Price of %s: %d, want %d", c, e, want)
		}
	}
}

// P6.1: the words of the chapter's examples.
func TestPriceOfExamples(t *testing.T) {
	h := example(t)
	expectPrice(t, h, "B1 D1 F1", "0 s:nfr r:r c:good", 3)
	expectPrice(t, h, "B1 D1", "0 s:nfr r:r", 7)
	expectPrice(t, h, "A1 C1 D1", "0 s:n s:f s:r", 9)
	expectPrice(t, h, "A1 C1", "1=0 s:n s:f", 6)
	expectPrice(t, h, "B1 F1 C1", "0=0 s:nfr c:good s:f", 7)
	expectPrice(t, h, "B1 C1", "0=0 s:nfr s:f", 11)
	expectPrice(t, h, "E1 D1 G1 F1", "0-0 w:nfr r:r s:t c:good", 4)
	expectPrice(t, h, "H1 A1", "1 w:n r:n", 1)
	expectNoWord(t, h, "B1 C1 F1", "0 s:nfr r:f c:good")
	expectNoWord(t, h, "B1 D1 F1", "0 s:nfr r:f c:good")
}

// letters is a house whose signs have many values, each of its kind: S the
// sounds, W the roots, C the classes.
func letters(t *testing.T) api.House {
	return house(t, "periods 1\n"+
		"S 1x1 s:a@1-1 s:b@1-1 s:ab@1-1 s:ba@1-1 s:abc@1-1 s:c@1-1 s:bc@1-1 s:abcd@1-1 s:cd@1-1 s:d@1-1 s:A@1-1\n"+
		"W 1x1 w:abc@1-1 w:ab@1-1 w:a@1-1 w:b@1-1 w:abcd@1-1\nC 1x1 c:x@1-1 c:y@1-1\n",
		"word abc 1 x 1\nword a 1 - 2\nword ab 2 y 4\nending 1 d e 8\nending 2 ab f 16\nclitic ab g 32\nclitic d h 64\nclitic b i 128\nclitic a j 256\n",
		api.Costs{Spell: 1, Stand: 10, Repeat: 100, Close: 1000, Open: 500})
}

// P6.1: the cost of a word.
func TestPriceCosts(t *testing.T) {
	h := letters(t)
	expectPrice(t, h, "S", "0 s:abc", 1+1+500)
	expectPrice(t, h, "W", "0 w:abc", 1+10+500)
	expectPrice(t, h, "S C", "0 s:abc c:x", 1+1+1000)
	expectPrice(t, h, "S S S", "0 s:a s:b s:c", 1+3+500)
	expectPrice(t, h, "S S C", "0 s:abc r:c c:x", 1+1+100+1000)
	expectPrice(t, h, "W S C", "0 w:abc r:bc c:x", 1+10+100+1000)
	expectPrice(t, h, "S", "1 s:a", 2+1)
	expectPrice(t, h, "W S", "1 w:a r:a", 2+10+100)
	expectPrice(t, h, "S S", "1-0 s:a s:d", 2+8+2)
	expectPrice(t, h, "S S", "1=1 s:a s:d", 2+64+2)
	expectPrice(t, h, "S S S S", "1=0=1=2 s:a s:ab s:d s:b", 2+32+64+128+4)
	expectPrice(t, h, "W S S S C S S S S", "2-1=0=2=3 w:ab r:b s:ab r:b c:y s:a s:b s:b s:a", 4+16+32+128+256+10+2*100+5+1000)
}

// P6.1: a use that Spells, and the ends of the parts.
func TestPriceSpells(t *testing.T) {
	h := letters(t)
	expectAll(t, h, api.OK,
		"S as 0-0 s:abcd", "S S as 0-0 s:ab s:cd", "S S as 0-0 s:abc s:d", "S S S as 0-0 s:a s:bc s:d",
		"S S as 1=2 s:a s:b", "S S S as 1=0=2 s:a s:ab s:b", "S S S as 1=0 s:a s:a s:b",
		"S S as 2-1 s:ab s:ab", "S S S as 2-1 s:a s:ba s:b", "S S S S as 2-1=0 s:ab s:a s:b s:ab",
		"S S S as 1=1=3 s:a s:d s:a",
	)
	expectAll(t, h, api.ErrUse,
		"S as 0=1 s:abcd", "S S as 0=1 s:ab s:cd", "S as 1=2 s:ab", "S S S S as 1=0=2 s:a s:a s:b s:ba", "S S as 1=2=3 s:a s:ba",
		"S as 0 s:ab", "S S as 0 s:a s:b", "S S as 0 s:abc s:c", "S S as 0 s:b s:c", "S S as 0 s:bc s:a", "S as 0 s:abcd", "S as 0 s:c",
		"S as 1 s:A", "S as 1=0 s:a", "S S as 1=0 s:a s:a", "S as 1-0 s:a", "S S as 1 s:a s:d", "S S S as 1=0=2 s:a s:b s:ab",
	)
}

// P6.1: a use that Stands.
func TestPriceStands(t *testing.T) {
	h := letters(t)
	expectAll(t, h, api.OK,
		"W as 0 w:abc", "W S as 0-0 w:abc s:d", "W S as 0=1 w:abc s:d", "W as 1 w:a", "W S as 2-1 w:ab s:ab", "W S S as 2-1 w:ab s:a s:b", "W C as 0 w:abc c:x",
	)
	expectAll(t, h, api.ErrUse,
		"W S as 0 w:ab s:c", "W as 0 w:ab", "W as 0 w:abcd", "W as 0-0 w:abcd", "W as 1=2 w:ab", "S W as 1=3 s:a w:a", "W W as 1=3 w:a w:a", "W S as 0 w:a s:bc",
		"W W as 2 w:ab w:ab", "S W as 2-1 s:ab w:ab", "W W as 2-1 w:ab w:ab", "W as 1 w:b", "W as 0-0 w:abc", "S W as 2 s:a w:b", "C W as 1 c:x w:a",
	)
}

// P6.1: a use that Repeats.
func TestPriceRepeats(t *testing.T) {
	h := letters(t)
	expectAll(t, h, api.OK,
		"S S as 0 s:abc r:c", "S S as 0 s:abc r:bc", "S S as 0 s:abc r:abc", "W S as 0 w:abc r:abc", "W S as 0 w:abc r:c", "W S as 1 w:a r:a",
		"S S S as 0 s:ab r:b s:c", "S S S as 0 s:a s:bc r:c", "W S S as 0-0 w:abc r:c s:d", "S S S as 1=0 s:a s:ab r:b", "S S S as 1=0 s:a s:ab r:ab", "S S S S as 2-1 s:ab r:b s:ab r:ab",
		"S S as 0-0 s:abcd r:cd", "S S S S as 1=0=2 s:a s:ab r:b s:b", "S S S S as 2-1 s:a s:ba r:a s:b",
	)
	expectAll(t, h, api.ErrUse,
		"S S as 1 s:a r:a", "S S S as 0 s:ab s:c r:c", "S S S as 0 s:ab s:c r:bc", "S S S as 0 s:a s:bc r:abc", "S S as 0 s:abc r:b", "S S as 0 s:abc r:a", "S S as 0 s:abc r:ab",
		"S S S as 0 s:abc r:c r:c", "W S S as 0 w:abc r:abc r:c", "S S as 0 r:c s:abc", "S W as 1 r:a w:a", "S C S as 0 s:abc c:x r:c", "W C S as 0 w:abc c:x r:c", "W S as 1 w:a r:ba", "S S as 0 s:abc r:abcd",
		"S S S S as 2-1 s:ab s:a s:b r:ab", "W S S as 2=3 w:ab s:a r:a", "S S as 0 s:abc r:A", "W S S S as 2-1 w:ab s:a r:ba s:b", "S S S S as 0 s:ab r:b r:b s:c",
	)
}

// P6.1: a use that Closes.
func TestPriceCloses(t *testing.T) {
	h := letters(t)
	expectAll(t, h, api.OK,
		"S C as 0 s:abc c:x", "S S C as 0 s:abc r:c c:x", "W C as 0 w:abc c:x", "S C as 0-0 s:abcd c:x", "W S C as 0-0 w:abc s:d c:x", "S C S as 0=1 s:abc c:x s:d", "W C S S as 2=0 w:ab c:y s:ab r:b", "S S C S as 0=1 s:abc r:bc c:x s:d",
	)
	expectAll(t, h, api.ErrUse,
		"S C as 0 s:abc c:y", "S C as 1 s:a c:x", "C S as 0 c:x s:abc", "S C S as 0 s:ab c:x s:c", "W C S as 0-0 w:abc c:x s:d", "S C S as 0-0 s:abc c:x s:d", "S C C as 0 s:abc c:x c:x", "S S C as 0=1 s:abc s:d c:x", "S C S C as 0=1 s:abc c:x s:d c:x",
		"S S C S as 0=0 s:abc s:a c:x s:b", "S C C S as 0=1 s:abc c:x c:x s:d", "C as 0 c:x",
	)
}

// P6.1: the signs have the uses, in the period of the house, one each.
func TestPriceSigns(t *testing.T) {
	h := letters(t)
	expectAll(t, h, api.ErrUse,
		"W as 0 s:abc", "S as 0 w:abc", "S W as 1 s:a s:d", "S as 1-0 s:a s:d", "S S as 1 s:a", "S S S S as 2-1 s:ab s:a s:b",
		" as 1 ", "S as 1", " as 1 s:a", "S S as 0 s:abc c:x", "S S S as 1=0 s:a s: s:ab", "S S as 0 s:abc r:", "S S as 1 s: s:a", "S S as 0 s:abc -:",
	)
	for _, kind := range []int{0, 5, -1, 1<<63 - 1, -1 << 63} {
		w := word("0 s:abc r:c")
		w.Uses[1].Kind = kind
		if cost, e := read.Price(h, line(t, h, "S S"), w); cost != 0 || e != api.ErrUse {
			t.Errorf("Price with the kind %d = %d, %d", kind, cost, e)
		}
	}
	h = house(t, "periods 2\nA1 1x1 s:a@1-1 w:b@2-2\nB1 1x1 s:a@2-2 w:b@1-1 s:b@1-2\n", "word a 1 - 0\nword b 1 - 0\n", api.Costs{})
	for period, open := range map[int]string{1: "0 s:a", 2: "1 w:b"} {
		h.Period = period
		for _, uses := range []string{"0 s:a", "1 w:b"} {
			if uses == open {
				expectPrice(t, h, "A1", uses, 0)
				expectNoWord(t, h, "B1", uses)
			} else {
				expectNoWord(t, h, "A1", uses)
				expectPrice(t, h, "B1", uses, 0)
			}
		}
		expectPrice(t, h, "B1", "1 s:b", 0)
	}
}

// P6.1: a word has at most MaxUses signs.
func TestPriceMostUses(t *testing.T) {
	h := house(t, "periods 1\nA 1x1 s:a@1-1\nD 1x1 s:aa@1-1\nC 1x1 c:x@1-1\n", "word aaaaaaaa 1 x 0\nending 1 aaaa e 0\nclitic a f 0\nclitic aa g 0\n", api.Costs{Spell: 1})
	single := func(n int) string { return strings.Repeat(" s:a", n) }
	expectPrice(t, h, strings.Repeat("A ", 12), "0-0"+single(12), 12)
	expectPrice(t, h, strings.Repeat("A ", 8)+"C A A A", "0=0=1"+single(8)+" c:x"+single(3), 11)
	expectNoWord(t, h, strings.Repeat("A ", 12)+"C", "0-0"+single(12)+" c:x")
	expectNoWord(t, h, strings.Repeat("A ", 13), "0-0=0"+single(13))
	expectNoWord(t, h, strings.Repeat("A ", 8)+"C A A A A", "0=0=1"+single(8)+" c:x"+single(4))
	expectPrice(t, h, "D A D A D A D A D A D A", "0-0"+strings.Repeat(" s:aa r:a", 6), 6)
	expectNoWord(t, h, "D A D A D A D A D A D A C", "0-0"+strings.Repeat(" s:aa r:a", 6)+" c:x")
	expectNoWord(t, h, strings.Repeat("A ", 60), "0-0"+single(60))
}

// P6.1 and R1: the form comes before the uses.
func TestPriceErrors(t *testing.T) {
	h := letters(t)
	for text, want := range map[string]api.Errno{"3 s:abc": api.ErrWord, "0-1 s:abc": api.ErrEnding, "0-2 s:z": api.ErrEnding, "0=4 s:z": api.ErrClitic, "0=0=0": api.ErrClitic, "0=0=1=2=3": api.ErrClitic, "3-9=9": api.ErrWord} {
		for _, codes := range []string{"S", "", "S S"} {
			if cost, e := read.Price(h, line(t, h, codes), word(text)); cost != 0 || e != want {
				t.Errorf("Price of %q as %q = %d, %d, want %d", codes, text, cost, e, want)
			}
		}
	}
	w := word("0 s:abc")
	w.Form.Ending = -2
	if cost, e := read.Price(h, line(t, h, "S"), w); cost != 0 || e != api.ErrEnding {
		t.Errorf("Price with the ending -2 = %d, %d", cost, e)
	}
	w = api.Spelled{Form: form("0"), Uses: slices.Repeat(word("0 s:a").Uses, 100000)}
	if cost, e := read.Price(h, line(t, h, "S"), w); cost != 0 || e != api.ErrUse {
		t.Errorf("Price with 100000 uses = %d, %d", cost, e)
	}
}

// P6.1: the price of any uses, said again.
func TestPriceSaidAgain(t *testing.T) {
	d := dice(1)
	priced := 0
	for range 20000 {
		h := d.roll(4)
		l := d.line(h.List, 4)
		w := api.Spelled{Form: form("0")}
		for _, sign := range l {
			if uses := usesOf(h, sign); len(uses) > 0 {
				w.Uses = append(w.Uses, uses[d.below(len(uses))])
			}
		}
		said := saidBy(w.Uses)
		if forms := formsBySounds(h.Lexicon)[said]; len(forms) > 0 {
			w.Form = forms[d.below(len(forms))]
		}
		want, wantError := 0, api.ErrUse
		if len(l) > 0 && len(w.Uses) == len(l) && obeys(h.Lexicon, w) {
			want, wantError = costOf(h, w), api.OK
			priced++
		}
		if cost, e := read.Price(h, l, w); cost != want || e != wantError {
			t.Fatalf("Price in %v of %v as %s = %d, %d, want %d, %d", h, l, showWord(w), cost, e, want, wantError)
		}
	}
	if priced < 500 {
		t.Errorf("only %d are words", priced)
	}
}
