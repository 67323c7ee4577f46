package read_test

import (
	"slices"
	"strings"
	"testing"

	"ostracon/api"
	"ostracon/read"
)

func expectValid(t *testing.T, h api.House, codes, reading string, cost, at int, want api.Errno) {
	t.Helper()
	if c, a, e := read.Valid(h, line(t, h, codes), words(reading)); c != cost || a != at || e != want {
		t.Errorf("Valid of %s as %s = %d, %d, %d, want %d, %d, %d", codes, reading, c, a, e, cost, at, want)
	}
}

// P6.5: readings, and where they are wrong.
func TestValid(t *testing.T) {
	h := example(t)
	expectValid(t, h, "", "", 0, 0, api.OK)
	expectValid(t, h, "B1 D1 F1", "0 s:nfr r:r c:good", 3, 0, api.OK)
	expectValid(t, h, "A1 H1", "1 s:n | 1 w:n", 3, 0, api.OK)
	expectValid(t, h, "A1 H1", "1 s:n | 1 s:n", 4, 0, api.OK)
	expectValid(t, h, "B1 D1 F1 A1 B1 C1", "0 s:nfr r:r c:good | 1 s:n | 0=0 s:nfr s:f", 16, 0, api.OK)
	expectValid(t, h, "A1", "", 0, 0, api.ErrReading)
	expectValid(t, h, "A1 H1", "1 s:n", 0, 1, api.ErrReading)
	expectValid(t, h, "A1 H1 A1", "1 s:n | 1 w:n", 0, 2, api.ErrReading)
	expectValid(t, h, "", "1 s:n", 0, 0, api.ErrUse)
	expectValid(t, h, "A1", "1 s:n | 1 s:n", 0, 1, api.ErrUse)
	expectValid(t, h, "A1", "1", 0, 0, api.ErrUse)
	expectValid(t, h, "", "1", 0, 0, api.ErrUse)
	expectValid(t, h, "A1", "1 s:n | 1", 0, 1, api.ErrUse)
	expectValid(t, h, "A1 B1", "1 s:n | 0 s:nfr c:good", 0, 1, api.ErrUse)
	expectValid(t, h, "A1 B1 F1 A1", "1 s:n | 0 s:nfr r:r | 9 s:n", 0, 1, api.ErrUse)
	expectValid(t, h, "A1 A1", "1 w:n | 9 s:n", 0, 0, api.ErrUse)
	expectValid(t, h, "A1 A1 A1", "1 s:n | 1 s:n | 2 s:n", 0, 2, api.ErrWord)
	expectValid(t, h, "A1 A1 A1", "1 s:n | 1-0 s:n | 1 w:n", 0, 1, api.ErrEnding)
	expectValid(t, h, "A1", "1=1 s:z", 0, 0, api.ErrClitic)
	expectValid(t, h, "", "2", 0, 0, api.ErrWord)
	expectValid(t, h, "A1", "1 s:n | 2 s:n", 0, 1, api.ErrWord)
	expectValid(t, h, strings.Repeat("A1 ", 60), strings.Repeat("1 s:n | ", 60), 120, 0, api.OK)
	expectValid(t, h, strings.Repeat("A1 ", 60), strings.Repeat("1 s:n | ", 61), 0, 60, api.ErrUse)
	expectValid(t, h, strings.Repeat("A1 ", 60), strings.Repeat("1 s:n | ", 59), 0, 59, api.ErrReading)
	expectValid(t, h, "E1 D1 G1 F1", "0-0 w:nfr r:r s:t c:good", 4, 0, api.OK)
	many := slices.Repeat(words("1 s:n"), 10000)
	if cost, at, e := read.Valid(h, line(t, h, "A1 A1"), many); cost != 0 || at != 2 || e != api.ErrUse {
		t.Errorf("Valid of 10000 words = %d, %d, %d", cost, at, e)
	}
}

// P6.5: a line whose words are too many to be listed can be read nevertheless.
func TestValidOfManyWords(t *testing.T) {
	h, l := many(t, 1)
	reading := append(slices.Repeat(words("7 s:a"), 50), word("40 s:b"))
	if cost, at, e := read.Valid(h, l, reading); cost != 0 || at != 0 || e != api.OK {
		t.Errorf("Valid = %d, %d, %d", cost, at, e)
	}
}

// P6.5
func TestTextAndSounds(t *testing.T) {
	h := house(t, "periods 1\n", "word nfr 1 good 2\nword n 2 - 1\nword HTp 3 c 0\nending 1 t fem 1\nending 2 wt plural 1\nending 1 wy dual 1\nclitic f his 3\nclitic sn their 0\nclitic j my 0\n", api.Costs{})
	for text, want := range map[string][2]string{
		"":                {"", ""},
		"0":               {"nfr", "nfr"},
		"0-0":             {"nfr.t", "nfrt"},
		"0-2":             {"nfr.wy", "nfrwy"},
		"1-1=1":           {"n.wt=sn", "nwtsn"},
		"1=0=1=2":         {"n=f=sn=j", "nfsnj"},
		"0-0 | 1=0":       {"nfr.t n=f", "nfrtnf"},
		"2 | 2=2 | 0 s:z": {"HTp HTp=j nfr", "HTpHTpjnfr"},
		"1 | 1 | 1":       {"n n n", "nnn"},
	} {
		got, e := read.Text(h, words(text))
		sounds, e2 := read.Sounds(h, words(text))
		if got != want[0] || e != api.OK || sounds != want[1] || e2 != api.OK {
			t.Errorf("Text and Sounds of %s = %q, %d, %q, %d, want %q", text, got, e, sounds, e2, want)
		}
	}
}

// P6.5
func TestTextAndSoundsErrors(t *testing.T) {
	h := example(t)
	check := func(what string, h api.House, all []api.Spelled, want api.Errno) {
		t.Helper()
		text, e := read.Text(h, all)
		expectError(t, "Text of "+what, text, e, want)
		sounds, e := read.Sounds(h, all)
		expectError(t, "Sounds of "+what, sounds, e, want)
	}
	check("no entry", h, words("2"), api.ErrWord)
	check("no ending", h, words("0-1"), api.ErrEnding)
	check("an ending of another kind", h, words("0 | 1-0 | 2"), api.ErrEnding)
	check("no clitic", h, words("0 | 1 | 0-0=1"), api.ErrClitic)
	check("no entry, and no ending behind it", h, words("2 | 0-1"), api.ErrWord)
	check("61 words", h, slices.Repeat(words("0"), 61), api.ErrMany)
	check("61 words that are none", h, slices.Repeat(words("2"), 61), api.ErrMany)
	check("60 words, the last one none", h, append(slices.Repeat(words("0"), 59), word("2")), api.ErrWord)
	got, e := read.Text(h, slices.Repeat(words("0"), 60))
	sounds, e2 := read.Sounds(h, slices.Repeat(words("0"), 60))
	if got != strings.TrimSpace(strings.Repeat("nfr ", 60)) || e != api.OK || sounds != strings.Repeat("nfr", 60) || e2 != api.OK {
		t.Errorf("Text and Sounds of 60 words = %q, %d, %q, %d", got, e, sounds, e2)
	}
	h.Costs.Stand = -1
	check("61 words in a house that is not valid", h, slices.Repeat(words("2"), 61), api.ErrCosts)
	check("nothing in a house that is not valid", h, nil, api.ErrCosts)
}
