package lexicon_test

import (
	"slices"
	"strings"
	"testing"

	"ostracon/api"
	"ostracon/lexicon"
)

// P5.6, P5.7: the forms of the example.
func TestWithAndLeast(t *testing.T) {
	x := parse(t, example)
	for s, want := range map[string][]api.Form{
		"nfr":    {form(0, -1), form(1, -1, 0, 1)},
		"n":      {form(1, -1)},
		"nr":     {form(1, -1, 1)},
		"nfrtf":  {form(0, 0, 0)},
		"nfrfr":  {form(0, -1, 0, 1)},
		"nfrtfr": {form(0, 0, 0, 1)},
	} {
		got, e := lexicon.With(x, s)
		expectForms(t, "With "+s, got, e, want...)
		least, e := lexicon.Least(x, s)
		expectForms(t, "Least "+s, []api.Form{least}, e, want[0])
	}
	for _, s := range []string{"x", "nf ", "nn", "nrf", "nt", "Nfr", "nfrt" + strings.Repeat("f", 60)} {
		got, e := lexicon.With(x, s)
		want, wantLeast := api.OK, api.ErrNone
		if strings.HasSuffix(s, " ") {
			want, wantLeast = api.ErrForm, api.ErrForm
		}
		expectError(t, "With "+s, got, e, want)
		least, e := lexicon.Least(x, s)
		expectError(t, "Least "+s, least, e, wantLeast)
	}
	got, e := lexicon.With(api.Lexicon{}, "a")
	expectForms(t, "With in an empty lexicon", got, e)
	least, e := lexicon.Least(api.Lexicon{}, "a")
	expectError(t, "Least in an empty lexicon", least, e, api.ErrNone)
}

// P5.7: the lightest one, and of several the first one.
func TestLeastOfSeveral(t *testing.T) {
	for text, want := range map[string]api.Form{
		"word ab 1 - 5\nword a 1 - 4\nending 1 b x 0\n":                                          form(1, 0),
		"word ab 1 - 5\nword a 1 - 4\nending 1 b x 1\n":                                          form(0, -1),
		"word a 1 - 3\nword ab 1 - 5\nending 1 b x 2\nclitic b c 2\n":                            form(0, -1, 0),
		"word a 1 - 3\nword ab 1 - 5\nending 1 b x 2\nclitic b c 1\n":                            form(0, -1, 0),
		"word a 1 - 3\nword ab 1 - 3\nending 1 b y 1\nending 1 b x 0\nclitic b c 1\n":            form(0, 1),
		"word a 1 - 3\nword ab 1 - 3\nending 1 b y 1\nending 1 b x 1\nclitic b c 1\n":            form(1, -1),
		"word a 1 - 3\nword ab 1 - 9\nending 1 b y 1\nending 1 b x 1\nclitic b c 1\n":            form(0, -1, 0),
		"word a 1 - 3\nending 1 b y 0\nending 1 b x 0\nclitic b c 0\nclitic b d 0\n":             form(0, -1, 0),
		"word a 1 - 1000\nword a 2 - 1000\nending 1 b y 1000\nending 2 b y 999\n":                form(1, 1),
		"word ab 1 c 1000\nword ab 1 d 0\nword ab 1 e 0\nword a 2 - 0\nclitic b d 0\n":           form(1, -1),
		"word a 2 - 0\nword ab 1 d 0\nword ab 1 e 0\nclitic b z 1\nclitic b a 0\n":               form(0, -1, 1),
		"word ab 9 - 1000\nword a 1 - 999\nclitic b z 0\n":                                       form(1, -1, 0),
		"word a 1 - 1\nending 1 b y 2\nclitic b z 3\nclitic b x 2\nclitic b w 1\nclitic b v 1\n": form(0, -1, 2),
	} {
		got, e := lexicon.Least(parse(t, text), "ab")
		expectForms(t, "Least in "+text, []api.Form{got}, e, want)
	}
}

// P5.6, P5.7: the same, said again.
func TestWithSaidAgain(t *testing.T) {
	d := dice(2)
	for range 400 {
		x := d.roll()
		forms := bySounds(x)
		all := []string{d.speech(9), d.speech(4), d.speech(2), "a", "b", "ab"}
		for s := range forms {
			all = append(all, s)
		}
		for _, s := range all {
			got, e := lexicon.With(x, s)
			if e != api.OK || !slices.EqualFunc(got, forms[s], sameForm) {
				t.Fatalf("With(%v, %q) = %v, %d, want %v", x, s, got, e, forms[s])
			}
			least, e := lexicon.Least(x, s)
			if len(got) == 0 {
				expectError(t, "Least", least, e, api.ErrNone)
				continue
			}
			want := slices.MinFunc(got, func(a, b api.Form) int { return weightOf(x, a) - weightOf(x, b) })
			if e != api.OK || !sameForm(least, want) {
				t.Fatalf("Least(%v, %q) = %v, %d, want %v", x, s, least, e, want)
			}
		}
	}
}

// P5.6, P5.7: With has at most 1000 forms, Least does not count them.
func TestWithMany(t *testing.T) {
	x := crowd(200, 0, 5)
	got, e := lexicon.With(x, "aa")
	if e != api.OK || len(got) != 1000 || !slices.IsSortedFunc(got, compareForms) || !sameForm(got[999], form(199, -1, 4)) {
		t.Errorf("With of 1000 forms: %d, %d", len(got), e)
	}
	x.Entries[7].Kind = 9
	x.Endings = []api.Ending{{Kind: 9, Text: "a", Name: "x"}}
	got, e = lexicon.With(x, "aa")
	expectError(t, "With of 1001 forms", got, e, api.ErrMany)
	least, e := lexicon.Least(x, "aa")
	expectForms(t, "Least of 1001 forms", []api.Form{least}, e, form(199, -1, 4))
	got, e = lexicon.With(x, "a")
	if e != api.OK || len(got) != 200 {
		t.Errorf("With of 200 forms: %d, %d", len(got), e)
	}
	x = crowd(200, 40, 10)
	got, e = lexicon.With(x, "aaaaa")
	expectError(t, "With of 960000 forms", got, e, api.ErrMany)
	least, e = lexicon.Least(x, "aaaaa")
	expectForms(t, "Least of 960000 forms", []api.Form{least}, e, form(199, 39, 7, 8, 9))
}

// P5.6 to P5.10: what sounds are. Where the sounds are wrong, most is, too.
func TestSpeech(t *testing.T) {
	x := parse(t, "word a 1 - 0\nword Z 1 - 0\nword z 1 - 0\nword A 1 - 0\n")
	for s, want := range map[string]api.Errno{
		"": api.ErrForm, "a": api.OK, "zAZa": api.OK, strings.Repeat("a", 64): api.OK, strings.Repeat("a", 65): api.ErrForm, strings.Repeat("a", 1<<20): api.ErrForm,
		"a1": api.ErrForm, "a ": api.ErrForm, "a@": api.ErrForm, "a[": api.ErrForm, "a`": api.ErrForm, "a{": api.ErrForm, "aé": api.ErrForm, "é": api.ErrForm, "\x00": api.ErrForm, "a\xff": api.ErrForm, "a\n": api.ErrForm, "-": api.ErrForm, "\u212a": api.ErrForm,
	} {
		_, e := lexicon.With(x, s)
		_, e2 := lexicon.Ways(x, s)
		_, e3 := lexicon.Reach(x, s)
		cuts, e4 := lexicon.Cuts(x, s, 1)
		if e != want || e2 != want || e3 != want || e4 != want {
			t.Errorf("of %q With is %d, Ways %d, Reach %d, Cuts %d, want %d", s, e, e2, e3, e4, want)
		}
		if want == api.OK {
			if len(cuts) != 1 || len(cuts[0].Forms) != len(s) {
				t.Errorf("Cuts of %q = %v", s, cuts)
			}
			continue
		}
		least, e := lexicon.Least(x, s)
		expectError(t, "Least", least, e, api.ErrForm)
		cuts, e = lexicon.Cuts(x, s, 0)
		expectError(t, "Cuts", cuts, e, api.ErrForm)
	}
	for want, x := range map[api.Errno]api.Lexicon{api.ErrMany: crowd(1, 41, 0), api.ErrWord: brokenEntry(), api.ErrEnding: broken(), api.ErrClitic: brokenClitic()} {
		forms, e := lexicon.With(x, "")
		expectError(t, "With", forms, e, want)
		least, e := lexicon.Least(x, "")
		expectError(t, "Least", least, e, want)
		cuts, e := lexicon.Cuts(x, "", 0)
		expectError(t, "Cuts", cuts, e, want)
		n, e := lexicon.Ways(x, "")
		expectError(t, "Ways", n, e, want)
		n, e = lexicon.Reach(x, "")
		expectError(t, "Reach", n, e, want)
	}
}
