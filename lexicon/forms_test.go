package lexicon_test

import (
	"slices"
	"strings"
	"testing"

	"ostracon/api"
	"ostracon/lexicon"
)

// P5.3
func TestStemSoundsWeight(t *testing.T) {
	x := parse(t, "word nFr 1 good 200\nword n 2 - 0\nending 2 s t 5\nending 1 t fem 30\nclitic f his 1\nclitic r to 0\nclitic ABCD abcd 4\n")
	for _, c := range []struct {
		f            api.Form
		stem, sounds string
		weight       int
	}{
		{form(0, -1), "nFr", "nFr", 200}, {form(0, 1), "nFrt", "nFrt", 230}, {form(1, 0), "ns", "ns", 5}, {form(1, -1), "n", "n", 0},
		{form(0, -1, 0), "nFr", "nFrf", 201}, {form(0, 1, 0, 1), "nFrt", "nFrtfr", 231}, {form(0, 1, 0, 1, 2), "nFrt", "nFrtfrABCD", 235}, {form(1, -1, 1, 2), "n", "nrABCD", 4},
	} {
		if s, e := lexicon.Stem(x, c.f); s != c.stem || e != api.OK {
			t.Errorf("Stem(%v) = %q, %d", c.f, s, e)
		}
		if s, e := lexicon.Sounds(x, c.f); s != c.sounds || e != api.OK {
			t.Errorf("Sounds(%v) = %q, %d", c.f, s, e)
		}
		if n, e := lexicon.Weight(x, c.f); n != c.weight || e != api.OK {
			t.Errorf("Weight(%v) = %d, %d", c.f, n, e)
		}
	}
	for _, c := range []struct {
		x    api.Lexicon
		f    api.Form
		want api.Errno
	}{
		{x, form(2, 9, 9), api.ErrWord}, {x, form(0, 0, 9), api.ErrEnding}, {x, form(0, 1, 1, 0), api.ErrClitic}, {broken(), form(2, -1), api.ErrEnding}, {brokenClitic(), form(2, 9), api.ErrClitic},
	} {
		s, e := lexicon.Stem(c.x, c.f)
		expectError(t, "Stem", s, e, c.want)
		s, e = lexicon.Sounds(c.x, c.f)
		expectError(t, "Sounds", s, e, c.want)
		n, e := lexicon.Weight(c.x, c.f)
		expectError(t, "Weight", n, e, c.want)
		s, e = lexicon.Gloss(c.x, c.f)
		expectError(t, "Gloss", s, e, c.want)
	}
}

// The heaviest and the longest form.
func TestLargestForm(t *testing.T) {
	x := parse(t, "word abcdefgh 9 abcdefgh 1000\nending 9 abcd abcdefgh 1000\nclitic efgh a 1000\nclitic ijkl b 1000\nclitic mnop c 1000\n")
	f := form(0, 0, 0, 1, 2)
	if s, e := lexicon.Sounds(x, f); s != "abcdefghabcdefghijklmnop" || e != api.OK {
		t.Errorf("Sounds = %q, %d", s, e)
	}
	if n, e := lexicon.Weight(x, f); n != 5000 || e != api.OK {
		t.Errorf("Weight = %d, %d", n, e)
	}
	if s, e := lexicon.Gloss(x, f); s != "abcdefgh/9/abcdefgh-abcdefgh=a=b=c" || e != api.OK {
		t.Errorf("Gloss = %q, %d", s, e)
	}
}

// glosses is a lexicon in which glosses are easily mistaken for each other.
const glosses = "word n 2 - 0\nword n 2 fem 0\nword n 1 - 0\nword nn 2 - 0\nword N 2 - 0\nending 1 a fem 0\nending 2 a fem 0\nending 2 a his 0\nclitic f his 0\nclitic f hi 0\nclitic f fem 0\nclitic f is 0\n"

// P5.4
func TestGloss(t *testing.T) {
	x := parse(t, glosses)
	for gloss, f := range map[string]api.Form{
		"n/2": form(0, -1), "n/2/fem": form(1, -1), "n/1": form(2, -1), "nn/2": form(3, -1), "N/2": form(4, -1), "n/2-fem": form(0, 1), "n/1-fem": form(2, 0), "n/2-his": form(0, 2), "n/2/fem-fem": form(1, 1), "n/2/fem-fem=fem": form(1, 1, 2),
		"n/2=his": form(0, -1, 0), "n/2=hi": form(0, -1, 1), "n/2=is": form(0, -1, 3), "n/2=his=is": form(0, -1, 0, 3), "n/2/fem=his=hi=fem": form(1, -1, 0, 1, 2), "n/1-fem=hi=fem=is": form(2, 0, 1, 2, 3),
	} {
		if s, e := lexicon.Gloss(x, f); s != gloss || e != api.OK {
			t.Errorf("Gloss(%v) = %q, %d, want %q", f, s, e, gloss)
		}
		if g, e := lexicon.ParseGloss(x, gloss); !sameForm(f, g) || e != api.OK {
			t.Errorf("ParseGloss(%q) = %v, %d, want %v", gloss, g, e, f)
		}
	}
}

// P5.4: texts that are no gloss.
func TestParseGlossForm(t *testing.T) {
	x := parse(t, glosses)
	for _, s := range []string{
		"", "n", "n/", "/2", "/", "n/02", "n/+2", "n/2/", "n/2/his", "n/3", "n/2/fem/", "n/2//fem", "n//2", "nnn/2", "N/1", "n/2fem", "n/22", "n/1/fem", "n/2 ", " n/2", "n/2\n",
		"n/2-", "n/2-fe", "n/2-femm", "n/1-his", "n/2-is", "n/2-fem-his", "n/2-fem-fem", "n/2-fem/", "n/2-=his", "-fem", "-", "n-fem/2", "n/2/fem-", "N/2-hi", "n/2--fem",
		"n/2=", "n/2=h", "n/2=hiss", "n/2==his", "n/2=his=", "n/2=his=his", "n/2=is=his", "n/2=fem=hi", "n/2=his=hi=fem=is", "n/2=fem-fem", "n/2=his-fem", "=his", "=", "n=his/2", "n/2=his/", "n/2-fem=x", "n/2 =his",
		"\xff", "n/2\x00", "né/2", "n/\u0662", strings.Repeat("=", 1<<16), "n/2" + strings.Repeat("=his", 1<<14), strings.Repeat("n/2", 1<<14), "n/2-" + strings.Repeat("f", 1<<16),
	} {
		f, e := lexicon.ParseGloss(x, s)
		expectError(t, "ParseGloss("+s+")", f, e, api.ErrForm)
	}
	f, e := lexicon.ParseGloss(broken(), "")
	expectError(t, "ParseGloss in a lexicon that is not valid", f, e, api.ErrEnding)
	f, e = lexicon.ParseGloss(api.Lexicon{}, "n/2")
	expectError(t, "ParseGloss in a lexicon without entries", f, e, api.ErrForm)
	f, e = lexicon.ParseGloss(api.Lexicon{}, "")
	expectError(t, "ParseGloss of nothing in a lexicon without entries", f, e, api.ErrForm)
}

// P5.5: the forms of the example, and of entries of other kinds.
func TestForms(t *testing.T) {
	x := parse(t, example)
	got, e := lexicon.Forms(x, 0)
	expectForms(t, "Forms of the entry 0", got, e, form(0, -1), form(0, -1, 0), form(0, -1, 0, 1), form(0, -1, 1), form(0, 0), form(0, 0, 0), form(0, 0, 0, 1), form(0, 0, 1))
	got, e = lexicon.Forms(x, 1)
	expectForms(t, "Forms of the entry 1", got, e, form(1, -1), form(1, -1, 0), form(1, -1, 0, 1), form(1, -1, 1))
	x = parse(t, "word a 3 - 0\nword b 1 - 0\nending 1 a x 0\nending 3 a x 0\nending 1 a y 0\nending 3 a y 0\n")
	got, e = lexicon.Forms(x, 0)
	expectForms(t, "Forms without clitics", got, e, form(0, -1), form(0, 1), form(0, 3))
	x = parse(t, "word a 1 - 0\nclitic a a 0\nclitic a b 0\nclitic a c 0\nclitic a d 0\n")
	got, e = lexicon.Forms(x, 0)
	expectForms(t, "Forms with four clitics", got, e, form(0, -1), form(0, -1, 0), form(0, -1, 0, 1), form(0, -1, 0, 1, 2), form(0, -1, 0, 1, 3), form(0, -1, 0, 2), form(0, -1, 0, 2, 3), form(0, -1, 0, 3),
		form(0, -1, 1), form(0, -1, 1, 2), form(0, -1, 1, 2, 3), form(0, -1, 1, 3), form(0, -1, 2), form(0, -1, 2, 3), form(0, -1, 3))
}

// P5.5: how many forms there are, by the numbers of endings and clitics.
func TestCount(t *testing.T) {
	lists := []int{1, 2, 4, 8, 15, 26, 42, 64, 93, 130, 176}
	for clitics, tails := range lists {
		for _, endings := range []int{0, 1, 4, 5, 6, 7, 9, 10, 14, 15, 22, 23, 37, 38, 39, 40} {
			x := crowd(2, endings, clitics)
			want := (1 + endings) * tails
			if n, e := lexicon.Count(x, 1); n != want || e != api.OK {
				t.Errorf("Count with %d endings and %d clitics = %d, %d, want %d", endings, clitics, n, e, want)
			}
			got, e := lexicon.Forms(x, 1)
			if want > 1000 {
				expectError(t, "Forms", got, e, api.ErrMany)
				continue
			}
			expectForms(t, "Forms", got, e, formsOf(x, 1)...)
			if len(got) != want {
				t.Errorf("Forms with %d endings and %d clitics are %d, want %d", endings, clitics, len(got), want)
			}
		}
	}
}

// P5.5: errors.
func TestFormsErrors(t *testing.T) {
	large := crowd(2, 40, 10)
	for _, c := range []struct {
		x     api.Lexicon
		entry int
		want  api.Errno
	}{
		{parse(t, example), -1, api.ErrWord}, {parse(t, example), 2, api.ErrWord}, {parse(t, example), -1 << 63, api.ErrWord}, {parse(t, example), 1<<63 - 1, api.ErrWord}, {api.Lexicon{}, 0, api.ErrWord},
		{large, 2, api.ErrWord}, {broken(), 5, api.ErrEnding}, {brokenClitic(), 5, api.ErrClitic}, {crowd(201, 0, 0), 300, api.ErrMany},
	} {
		got, e := lexicon.Forms(c.x, c.entry)
		expectError(t, "Forms", got, e, c.want)
		n, e := lexicon.Count(c.x, c.entry)
		expectError(t, "Count", n, e, c.want)
	}
	if n, e := lexicon.Count(large, 0); n != 41*176 || e != api.OK {
		t.Errorf("Count of too many forms = %d, %d", n, e)
	}
	got, e := lexicon.Forms(large, 0)
	expectError(t, "Forms of too many", got, e, api.ErrMany)
}

// P5.3 to P5.5: the forms of lexicons, said again.
func TestFormsSaidAgain(t *testing.T) {
	d := dice(1)
	for range 300 {
		x := d.roll()
		for entry := range x.Entries {
			want := formsOf(x, entry)
			got, e := lexicon.Forms(x, entry)
			if e != api.OK || !slices.EqualFunc(got, want, sameForm) {
				t.Fatalf("Forms(%v, %d) = %v, %d", x, entry, got, e)
			}
			if n, e := lexicon.Count(x, entry); n != len(want) || e != api.OK {
				t.Fatalf("Count(%v, %d) = %d, %d", x, entry, n, e)
			}
			for _, f := range want {
				s, e := lexicon.Sounds(x, f)
				w, e2 := lexicon.Weight(x, f)
				if s != soundsOf(x, f) || w != weightOf(x, f) || e != api.OK || e2 != api.OK {
					t.Fatalf("Sounds and Weight of %v of %v = %q, %d, %d, %d", f, x, s, e, w, e2)
				}
			}
		}
	}
}
