package lexicon_test

import (
	"slices"
	"strings"
	"testing"

	"ostracon/api"
	"ostracon/lexicon"
)

func expectCheck(t *testing.T, what string, x api.Lexicon, want api.Errno) {
	t.Helper()
	if e := lexicon.Check(x); e != want {
		t.Errorf("Check of %s = %d, want %d", what, e, want)
	}
}

// texts that are no sounds and no names, whatever their length may be.
var badTexts = []string{"", "a1", "1", "a ", " a", "a@", "a[", "a`", "a{", "a-", "a/", "a=", "é", "aé", "\x00", "a\xff", "a\n", "\u212a", strings.Repeat("a", 1<<16)}

// P5.1: how many of each there may be.
func TestCheckMany(t *testing.T) {
	expectCheck(t, "the example", parse(t, example), api.OK)
	expectCheck(t, "nothing", api.Lexicon{}, api.OK)
	expectCheck(t, "empty lists", api.Lexicon{Entries: []api.Entry{}, Endings: []api.Ending{}, Clitics: []api.Clitic{}}, api.OK)
	expectCheck(t, "as many as there may be", crowd(200, 40, 10), api.OK)
	expectCheck(t, "201 entries", crowd(201, 40, 10), api.ErrMany)
	expectCheck(t, "41 endings", crowd(200, 41, 10), api.ErrMany)
	expectCheck(t, "11 clitics", crowd(200, 40, 11), api.ErrMany)
	expectCheck(t, "201 entries that are not valid", api.Lexicon{Entries: make([]api.Entry, 201)}, api.ErrMany)
	expectCheck(t, "a wrong entry and 41 endings", api.Lexicon{Entries: make([]api.Entry, 1), Endings: make([]api.Ending, 41)}, api.ErrMany)
	expectCheck(t, "a wrong entry and 11 clitics", api.Lexicon{Entries: make([]api.Entry, 1), Clitics: make([]api.Clitic, 11)}, api.ErrMany)
	expectCheck(t, "200 entries that are not valid", api.Lexicon{Entries: make([]api.Entry, 200)}, api.ErrWord)
	expectCheck(t, "40 endings that are not valid", api.Lexicon{Endings: make([]api.Ending, 40)}, api.ErrEnding)
	expectCheck(t, "10 clitics that are not valid", api.Lexicon{Clitics: make([]api.Clitic, 10)}, api.ErrClitic)
}

// P5.1: what an entry is.
func TestCheckEntry(t *testing.T) {
	check := func(what string, w api.Entry, want api.Errno) {
		t.Helper()
		expectCheck(t, what, api.Lexicon{Entries: []api.Entry{w}}, want)
		expectCheck(t, what+" behind another entry", api.Lexicon{Entries: []api.Entry{{Root: "other", Kind: 1}, w}}, want)
	}
	for _, root := range []string{"a", "z", "A", "Z", "aZ", "Za", "abcdefgh", "ABCDEFGH"} {
		check("the root "+root, api.Entry{Root: root, Kind: 1}, api.OK)
	}
	for _, root := range append(badTexts, "abcdefghi") {
		check("the root "+root, api.Entry{Root: root, Kind: 1}, api.ErrWord)
	}
	for kind, want := range map[int]api.Errno{1: api.OK, 9: api.OK, 0: api.ErrWord, 10: api.ErrWord, -1: api.ErrWord, -1 << 63: api.ErrWord, 1<<63 - 1: api.ErrWord} {
		check("a kind", api.Entry{Root: "a", Kind: kind}, want)
	}
	for _, class := range []string{"", "a", "z", "abcdefgh"} {
		check("the class "+class, api.Entry{Root: "a", Kind: 1, Class: class}, api.OK)
	}
	for _, class := range append(badTexts[1:], "abcdefghi", "A", "Z", "aZ", "-") {
		check("the class "+class, api.Entry{Root: "a", Kind: 1, Class: class}, api.ErrWord)
	}
	for weight, want := range map[int]api.Errno{0: api.OK, 1: api.OK, 1000: api.OK, -1: api.ErrWord, 1001: api.ErrWord, -1 << 63: api.ErrWord, 1<<63 - 1: api.ErrWord} {
		check("a weight", api.Entry{Root: "a", Kind: 1, Weight: weight}, want)
	}
}

// P5.1: what an ending is, and what a clitic is.
func TestCheckEndingAndClitic(t *testing.T) {
	check := func(what string, text, name string, weight int, valid bool) {
		t.Helper()
		ending, clitic := api.Ending{Kind: 1, Text: text, Name: name, Weight: weight}, api.Clitic{Text: text, Name: name, Weight: weight}
		want, wantClitic := api.ErrEnding, api.ErrClitic
		if valid {
			want, wantClitic = api.OK, api.OK
		}
		expectCheck(t, "an ending with "+what, api.Lexicon{Endings: []api.Ending{ending}}, want)
		expectCheck(t, "a second ending with "+what, api.Lexicon{Endings: []api.Ending{{Kind: 1, Text: "a", Name: "other"}, ending}}, want)
		expectCheck(t, "a clitic with "+what, api.Lexicon{Clitics: []api.Clitic{clitic}}, wantClitic)
		expectCheck(t, "a second clitic with "+what, api.Lexicon{Clitics: []api.Clitic{{Text: "a", Name: "other"}, clitic}}, wantClitic)
	}
	for _, text := range []string{"a", "z", "A", "Z", "aZ", "abcd", "ABCD"} {
		check("the text "+text, text, "a", 0, true)
	}
	for _, text := range append(badTexts, "abcde") {
		check("the text "+text, text, "a", 0, false)
	}
	for _, name := range []string{"a", "z", "abcdefgh"} {
		check("the name "+name, "a", name, 0, true)
	}
	for _, name := range append(badTexts, "abcdefghi", "A", "Z", "aZ") {
		check("the name "+name, "a", name, 0, false)
	}
	for weight, valid := range map[int]bool{0: true, 1: true, 1000: true, -1: false, 1001: false, -1 << 63: false, 1<<63 - 1: false} {
		check("a weight", "a", "a", weight, valid)
	}
	for kind, want := range map[int]api.Errno{1: api.OK, 9: api.OK, 0: api.ErrEnding, 10: api.ErrEnding, -1: api.ErrEnding, -1 << 63: api.ErrEnding, 1<<63 - 1: api.ErrEnding} {
		expectCheck(t, "an ending with a kind", api.Lexicon{Endings: []api.Ending{{Kind: kind, Text: "a", Name: "a"}}}, want)
	}
}

// P5.1: what may stand twice.
func TestCheckTwice(t *testing.T) {
	w := api.Entry{Root: "a", Kind: 1, Class: "c", Weight: 1}
	for _, c := range []struct {
		second api.Entry
		want   api.Errno
	}{
		{w, api.ErrWord}, {api.Entry{Root: "a", Kind: 1, Class: "c", Weight: 2}, api.ErrWord},
		{api.Entry{Root: "A", Kind: 1, Class: "c", Weight: 1}, api.OK}, {api.Entry{Root: "a", Kind: 2, Class: "c", Weight: 1}, api.OK}, {api.Entry{Root: "a", Kind: 1, Class: "d", Weight: 1}, api.OK},
		{api.Entry{Root: "a", Kind: 1, Weight: 1}, api.OK}, {api.Entry{Root: "ac", Kind: 1, Weight: 1}, api.OK},
	} {
		expectCheck(t, "entries", api.Lexicon{Entries: []api.Entry{w, {Root: "x", Kind: 1}, c.second}}, c.want)
	}
	n := api.Ending{Kind: 1, Text: "a", Name: "n", Weight: 1}
	for _, c := range []struct {
		second api.Ending
		want   api.Errno
	}{
		{n, api.ErrEnding}, {api.Ending{Kind: 1, Text: "b", Name: "n", Weight: 2}, api.ErrEnding},
		{api.Ending{Kind: 2, Text: "a", Name: "n", Weight: 1}, api.OK}, {api.Ending{Kind: 1, Text: "a", Name: "m", Weight: 1}, api.OK},
	} {
		expectCheck(t, "endings", api.Lexicon{Endings: []api.Ending{n, {Kind: 1, Text: "x", Name: "x"}, c.second}}, c.want)
	}
	l := api.Clitic{Text: "a", Name: "n", Weight: 1}
	for _, c := range []struct {
		second api.Clitic
		want   api.Errno
	}{
		{l, api.ErrClitic}, {api.Clitic{Text: "b", Name: "n", Weight: 2}, api.ErrClitic}, {api.Clitic{Text: "a", Name: "m", Weight: 1}, api.OK},
	} {
		expectCheck(t, "clitics", api.Lexicon{Clitics: []api.Clitic{l, {Text: "x", Name: "x"}, c.second}}, c.want)
	}
	expectCheck(t, "a name of an ending and a clitic, and a class", api.Lexicon{Entries: []api.Entry{w, {Root: "b", Kind: 1, Class: "c"}}, Endings: []api.Ending{{Kind: 1, Text: "a", Name: "c"}}, Clitics: []api.Clitic{{Text: "a", Name: "c"}}}, api.OK)
}

// P5.1 and R1: entries before endings, endings before clitics.
func TestCheckOrder(t *testing.T) {
	x := parse(t, example)
	x.Clitics[0].Weight = -1
	expectCheck(t, "a wrong clitic", x, api.ErrClitic)
	x.Endings[0].Weight = -1
	expectCheck(t, "a wrong ending and a wrong clitic", x, api.ErrEnding)
	x.Entries[1].Weight = -1
	expectCheck(t, "a wrong entry, ending and clitic", x, api.ErrWord)
}

// P5.2
func TestCheckForm(t *testing.T) {
	x := parse(t, "word a 1 - 0\nword b 2 c 0\nword c 3 - 0\nending 1 a x 0\nending 2 a x 0\nending 1 b y 0\nclitic a a 0\nclitic a b 0\nclitic a c 0\nclitic a d 0\n")
	for _, c := range []struct {
		f    api.Form
		want api.Errno
	}{
		{form(0, -1), api.OK}, {form(0, 0), api.OK}, {form(0, 2), api.OK}, {form(1, 1), api.OK}, {form(2, -1), api.OK},
		{form(0, -1, 0), api.OK}, {form(0, -1, 3), api.OK}, {form(1, 1, 0, 1, 2), api.OK}, {form(2, -1, 0, 2, 3), api.OK}, {api.Form{Ending: -1, Clitics: []int{}}, api.OK},
		{form(-1, -1), api.ErrWord}, {form(3, -1), api.ErrWord}, {form(-1<<63, -1), api.ErrWord}, {form(1<<63-1, -1), api.ErrWord},
		{form(0, 1), api.ErrEnding}, {form(1, 0), api.ErrEnding}, {form(1, 2), api.ErrEnding}, {form(2, 0), api.ErrEnding}, {form(0, 3), api.ErrEnding}, {form(0, -2), api.ErrEnding}, {form(0, -1<<63), api.ErrEnding}, {form(0, 1<<63-1), api.ErrEnding},
		{form(0, -1, 0, 1, 2, 3), api.ErrClitic}, {form(0, -1, 4), api.ErrClitic}, {form(0, -1, -1), api.ErrClitic}, {form(0, -1, 0, 0), api.ErrClitic}, {form(0, -1, 1, 0), api.ErrClitic}, {form(0, -1, 0, 1, 1), api.ErrClitic}, {form(0, -1, 2, 3, 0), api.ErrClitic},
		{form(0, -1, 1, 2, 4), api.ErrClitic}, {form(0, -1, -1<<63), api.ErrClitic}, {form(0, -1, 1<<63-1), api.ErrClitic}, {form(0, -1, -1, 0), api.ErrClitic},
		{form(3, 5, 7), api.ErrWord}, {form(3, -1, 7), api.ErrWord}, {form(0, 5, 7), api.ErrEnding},
	} {
		if e := lexicon.CheckForm(x, c.f); e != c.want {
			t.Errorf("CheckForm(%v) = %d, want %d", c.f, e, c.want)
		}
	}
	for want, x := range map[api.Errno]api.Lexicon{api.ErrMany: crowd(201, 0, 0), api.ErrEnding: broken(), api.ErrClitic: brokenClitic()} {
		if e := lexicon.CheckForm(x, form(999, 999, 999)); e != want {
			t.Errorf("CheckForm in a lexicon that is not valid = %d, want %d", e, want)
		}
	}
	if e := lexicon.CheckForm(brokenEntry(), form(0, 5)); e != api.ErrWord {
		t.Errorf("CheckForm of an entry that is not valid = %d", e)
	}
	if e := lexicon.CheckForm(api.Lexicon{}, form(0, -1)); e != api.ErrWord {
		t.Errorf("CheckForm in a lexicon without entries = %d", e)
	}
	if e := lexicon.CheckForm(x, form(0, -1, slices.Repeat([]int{0}, 1000)...)); e != api.ErrClitic {
		t.Errorf("CheckForm with 1000 clitics = %d", e)
	}
}
