package lexicon_test

import (
	"strings"
	"testing"

	"ostracon/api"
	"ostracon/lexicon"
)

// P5.11
func TestSame(t *testing.T) {
	x := parse(t, example)
	if !lexicon.Same(x, clone(x)) || !lexicon.Same(api.Lexicon{}, api.Lexicon{}) || !lexicon.Same(x, x) {
		t.Errorf("equal lexicons are not Same")
	}
	empty := api.Lexicon{Entries: []api.Entry{}, Endings: []api.Ending{}, Clitics: []api.Clitic{}}
	if !lexicon.Same(api.Lexicon{}, empty) || !lexicon.Same(empty, api.Lexicon{}) {
		t.Errorf("nil lists and empty lists are not Same")
	}
	for what, change := range map[string]func(y *api.Lexicon){
		"root":                 func(y *api.Lexicon) { y.Entries[1].Root = "N" },
		"kind":                 func(y *api.Lexicon) { y.Entries[1].Kind = 3 },
		"class":                func(y *api.Lexicon) { y.Entries[0].Class = "" },
		"weight":               func(y *api.Lexicon) { y.Entries[0].Weight = 3 },
		"kind of an ending":    func(y *api.Lexicon) { y.Endings[0].Kind = 2 },
		"text of an ending":    func(y *api.Lexicon) { y.Endings[0].Text = "tt" },
		"name of an ending":    func(y *api.Lexicon) { y.Endings[0].Name = "fe" },
		"weight of an ending":  func(y *api.Lexicon) { y.Endings[0].Weight = 0 },
		"text of a clitic":     func(y *api.Lexicon) { y.Clitics[1].Text = "R" },
		"name of a clitic":     func(y *api.Lexicon) { y.Clitics[1].Name = "too" },
		"weight of a clitic":   func(y *api.Lexicon) { y.Clitics[1].Weight = 1 },
		"order of entries":     func(y *api.Lexicon) { y.Entries[0], y.Entries[1] = y.Entries[1], y.Entries[0] },
		"order of clitics":     func(y *api.Lexicon) { y.Clitics[0], y.Clitics[1] = y.Clitics[1], y.Clitics[0] },
		"order of endings":     func(y *api.Lexicon) { y.Endings[0], y.Endings[1] = y.Endings[1], y.Endings[0] },
		"entry less":           func(y *api.Lexicon) { y.Entries = y.Entries[:1] },
		"ending less":          func(y *api.Lexicon) { y.Endings = y.Endings[:1] },
		"clitic less":          func(y *api.Lexicon) { y.Clitics = nil },
		"entry that is not OK": func(y *api.Lexicon) { y.Entries[0] = api.Entry{} },
	} {
		x := parse(t, example)
		x.Endings = append(x.Endings, api.Ending{Kind: 1, Text: "w", Name: "pl"})
		y := clone(x)
		change(&y)
		if lexicon.Same(x, y) || lexicon.Same(y, x) || !lexicon.Same(y, clone(y)) {
			t.Errorf("Same with another %s", what)
		}
	}
	if !lexicon.Same(brokenEntry(), brokenEntry()) || lexicon.Same(brokenEntry(), broken()) {
		t.Errorf("Same of lexicons that are not valid")
	}
}

// P5.12
func TestFormat(t *testing.T) {
	x := api.Lexicon{
		Entries: []api.Entry{{Root: "Zz", Kind: 9, Weight: 1000}, {Root: "nfr", Kind: 1, Class: "good", Weight: 0}, {Root: "abcdefgh", Kind: 3, Class: "abcdefgh", Weight: 12}},
		Endings: []api.Ending{{Kind: 2, Text: "tY", Name: "fem", Weight: 7}, {Kind: 1, Text: "w", Name: "pl", Weight: 1000}},
		Clitics: []api.Clitic{{Text: "F", Name: "his", Weight: 0}, {Text: "abcd", Name: "to", Weight: 345}},
	}
	want := "word Zz 9 - 1000\nword nfr 1 good 0\nword abcdefgh 3 abcdefgh 12\nending 2 tY fem 7\nending 1 w pl 1000\nclitic F his 0\nclitic abcd to 345\n"
	if s, e := lexicon.Format(x); s != want || e != api.OK {
		t.Errorf("Format = %q, %d", s, e)
	}
	if s, e := lexicon.Format(api.Lexicon{}); s != "" || e != api.OK {
		t.Errorf("Format of an empty lexicon = %q, %d", s, e)
	}
	for want, x := range map[api.Errno]api.Lexicon{api.ErrMany: crowd(1, 0, 11), api.ErrWord: brokenEntry(), api.ErrEnding: broken(), api.ErrClitic: brokenClitic()} {
		s, e := lexicon.Format(x)
		expectError(t, "Format", s, e, want)
	}
}

// P5.13: what is read.
func TestParse(t *testing.T) {
	for text, want := range map[string]api.Lexicon{
		"":                             {},
		"word nFr 9 good 1000\n":       {Entries: []api.Entry{{Root: "nFr", Kind: 9, Class: "good", Weight: 1000}}},
		"word a 1 - 0\n":               {Entries: []api.Entry{{Root: "a", Kind: 1}}},
		"word word 1 word 0\n":         {Entries: []api.Entry{{Root: "word", Kind: 1, Class: "word"}}},
		"ending 3 tY fem 20\n":         {Endings: []api.Ending{{Kind: 3, Text: "tY", Name: "fem", Weight: 20}}},
		"clitic F ending 300\n":        {Clitics: []api.Clitic{{Text: "F", Name: "ending", Weight: 300}}},
		"word a 1 - 0\nclitic F x 3\n": {Entries: []api.Entry{{Root: "a", Kind: 1}}, Clitics: []api.Clitic{{Text: "F", Name: "x", Weight: 3}}},
		example: {
			Entries: []api.Entry{{Root: "nfr", Kind: 1, Class: "good", Weight: 2}, {Root: "n", Kind: 2, Weight: 1}},
			Endings: []api.Ending{{Kind: 1, Text: "t", Name: "fem", Weight: 1}},
			Clitics: []api.Clitic{{Text: "f", Name: "his", Weight: 1}, {Text: "r", Name: "to", Weight: 0}},
		},
	} {
		if x := parse(t, text); !lexicon.Same(x, want) {
			t.Errorf("Parse(%q) = %v, want %v", text, x, want)
		}
	}
}

func expectParse(t *testing.T, text string, wantLine int, want api.Errno) {
	t.Helper()
	x, line, e := lexicon.Parse(text)
	if line != wantLine || e != want || e != api.OK && !lexicon.Same(x, api.Lexicon{}) {
		t.Errorf("Parse(%.100q) = %v, line %d, %d, want line %d, %d", text, x, line, e, wantLine, want)
	}
}

// P5.13: lines that do not have the form described.
func TestParseForm(t *testing.T) {
	for _, line := range []string{
		"", " ", "word", "word ", "a", "words a 1 - 0", "Word a 1 - 0", "ord a 1 - 0", "\xff", "\x00", "-", "# a", "clitics a a 0", "end 1 a a 0", "ending 1", "clitic a",
		"word a 1 -", "word a 1 0", "word a 1 - 0 0", "word a 1  0", "word  a 1 - 0", " word a 1 - 0", "word a 1 - 0 ", "word a 1 - ", "word a - 1 0", "word 1 a - 0", "word a\t1 - 0", "word a 1 - 0\r", "word a 1 - 0\t",
		"word a 01 - 0", "word a 1 - 00", "word a 1 - 01", "word a 1 - 0001", "word a 1 - 10000", "word a 11111 - 0", "word a 1 - +1", "word a +1 - 1", "word a 1 - -1", "word a -1 - 1", "word a 1 - 1e1", "word a 1 - 0x1", "word a 1 - 1_0", "word a 1 - \u0661", "word a 1 - 1/", "word a 1 - 1:", "word a x - 1", "word a 1 - x",
		"word a 1 - " + strings.Repeat("9", 400), "word a 1 - " + strings.Repeat("0", 400), "word a 1" + strings.Repeat(" ", 400) + "- 0",
		"ending 1 a a", "ending 1 a a 0 0", "ending a 1 a 0", "ending a a 0", "ending 01 a a 0", "ending 1 a a 00", "ending 10000 a a 0", "ending 1 a a 10000", "ending 1  a 0", "ending 1 a  0", "ending 1 a a 0 ", "ending  1 a a 0", "ending 1 a a ",
		"clitic a a", "clitic a a 0 0", "clitic 1 a a 0", "clitic a 0", "clitic a a 00", "clitic a a 10000", "clitic  a 0", "clitic a  0", "clitic a a 0 ", "clitic a a +0", "clitic a a ",
	} {
		expectParse(t, line+"\n", 1, api.ErrForm)
		expectParse(t, "word a 1 - 0\n"+line+"\nword b 1 - 0\nx\n", 2, api.ErrForm)
		expectParse(t, "word a 0 - 0\nending 1 a a 0\n"+line+"\n", 3, api.ErrForm)
		expectParse(t, "ending 1 a a 0\nclitic a a 0\nclitic a a 0\n"+line+"\n", 4, api.ErrForm)
	}
	for _, line := range []string{"word a 1 - 0", "ending 1 a a 0", "clitic a a 0", "x", " "} {
		expectParse(t, line, 1, api.ErrForm)
		expectParse(t, "word b 1 - 0\nending 1 b b 0\n"+line, 3, api.ErrForm)
	}
	expectParse(t, "\n"+example, 1, api.ErrForm)
	expectParse(t, example+"\n", 6, api.ErrForm)
	expectParse(t, example+example, 6, api.ErrForm)
}

// P5.13: endings stand behind entries, clitics behind endings.
func TestParseOrder(t *testing.T) {
	const word, ending, clitic = "word a 1 - 0\n", "ending 1 a a 0\n", "clitic a a 0\n"
	for text, line := range map[string]int{
		word + ending + clitic: 0, word + clitic: 0, ending + clitic: 0, word + ending: 0,
		ending + word: 2, clitic + word: 2, clitic + ending: 2, ending + word + clitic: 2, ending + clitic + word: 3, clitic + word + ending: 2, word + clitic + ending: 3, word + clitic + word: 3, word + ending + word: 3, ending + clitic + ending: 3,
	} {
		want := api.OK
		if line > 0 {
			want = api.ErrForm
		}
		expectParse(t, text, line, want)
	}
}

// P5.13: Check's errors come behind those of any line, with the line 0.
func TestParseCheck(t *testing.T) {
	for line, want := range map[string]api.Errno{
		"word a 0 - 0": api.ErrWord, "word a 10 - 0": api.ErrWord, "word a 9999 - 0": api.ErrWord, "word a 1 - 1001": api.ErrWord, "word a 1 - 9999": api.ErrWord, "word a 1 -- 0": api.ErrWord, "word - 1 - 0": api.ErrWord, "word abcdefghi 1 - 0": api.ErrWord, "word a 1 A 0": api.ErrWord, "word a 1 0 0": api.ErrWord, "word \xff 1 - 0": api.ErrWord, "word é 1 - 0": api.ErrWord, "word \x00 1 \t 0": api.ErrWord, "word a\r 1 - 0": api.ErrWord,
		"word other 1 - 5": api.ErrWord, "word a 1 abcdefghi 0": api.ErrWord, "word " + strings.Repeat("a", 1000) + " 1 - 0": api.ErrWord,
		"ending 0 a a 0": api.ErrEnding, "ending 10 a a 0": api.ErrEnding, "ending 1 - a 0": api.ErrEnding, "ending 1 a - 0": api.ErrEnding, "ending 1 a A 0": api.ErrEnding, "ending 1 abcde a 0": api.ErrEnding, "ending 1 a a 1001": api.ErrEnding, "ending 1 \xff a 0": api.ErrEnding, "ending 1 1 1 1": api.ErrEnding,
		"clitic - a 0": api.ErrClitic, "clitic a - 0": api.ErrClitic, "clitic a A 0": api.ErrClitic, "clitic abcde a 0": api.ErrClitic, "clitic a a 1001": api.ErrClitic, "clitic a é 0": api.ErrClitic, "clitic 1 1 1": api.ErrClitic,
	} {
		expectParse(t, "word other 1 - 0\n"+line+"\n", 0, want)
		expectParse(t, "word other 1 - 0\n"+line+"\nx\n", 3, api.ErrForm)
	}
	expectParse(t, "clitic a a 0\nclitic b a 0\n", 0, api.ErrClitic)
	expectParse(t, "ending 1 a a 0\nending 1 b a 0\n", 0, api.ErrEnding)
	expectParse(t, "word a 1 - 0\nending 0 a a 0\nclitic a A 0\n", 0, api.ErrEnding)
}

// P5.13: too much.
func TestParseMany(t *testing.T) {
	line := func(root int) string { return "word " + strings.Repeat("a", root) + " 1 - 0\n" }
	most := api.MaxText - len(line(0))
	expectParse(t, line(most), 0, api.ErrWord)
	expectParse(t, line(most+1), 0, api.ErrMany)
	expectParse(t, strings.Repeat("\n", api.MaxText), 1, api.ErrForm)
	expectParse(t, strings.Repeat("\n", api.MaxText+1), 0, api.ErrMany)
	expectParse(t, strings.Repeat("x", api.MaxText+1), 0, api.ErrMany)
	expectParse(t, strings.Repeat(line(1), 201), 0, api.ErrMany)
	expectParse(t, strings.Repeat(line(1), 201)+"x\n", 202, api.ErrForm)
	expectParse(t, strings.Repeat(line(1), 200), 0, api.ErrWord)
	expectParse(t, "word a 0 - 0\n"+strings.Repeat("ending 1 a a 0\n", 41), 0, api.ErrMany)
	expectParse(t, "word a 0 - 0\n"+strings.Repeat("clitic a a 0\n", 11), 0, api.ErrMany)
}
