package lexicon_test

import (
	"slices"
	"strings"
	"testing"

	"ostracon/api"
	"ostracon/lexicon"
)

func expectCuts(t *testing.T, x api.Lexicon, s string, most int, want ...lexicon.Cut) {
	t.Helper()
	if got, e := lexicon.Cuts(x, s, most); e != api.OK || !slices.EqualFunc(got, want, sameCut) {
		t.Errorf("Cuts(%q, %d) = %v, %d, want %v", s, most, got, e, want)
	}
}

func cut(weight int, forms ...api.Form) lexicon.Cut {
	return lexicon.Cut{Forms: forms, Weight: weight}
}

// P5.8: the cuts of the example.
func TestCuts(t *testing.T) {
	x := parse(t, example)
	n, nfr := form(1, -1), form(0, -1)
	long := form(1, -1, 0, 1)
	expectCuts(t, x, "nn", 64, cut(2, n, n))
	expectCuts(t, x, "nfrn", 64, cut(3, nfr, n), cut(3, long, n))
	expectCuts(t, x, "nfrn", 2, cut(3, nfr, n), cut(3, long, n))
	expectCuts(t, x, "nfrn", 1, cut(3, nfr, n))
	expectCuts(t, x, "nfrnfr", 64, cut(4, nfr, nfr), cut(4, nfr, long), cut(4, long, nfr), cut(4, long, long))
	expectCuts(t, x, "nfrnfr", 3, cut(4, nfr, nfr), cut(4, nfr, long), cut(4, long, nfr))
	expectCuts(t, x, "nrnf", 64, cut(3, form(1, -1, 1), form(1, -1, 0)))
	expectCuts(t, x, "x", 64)
	expectCuts(t, x, "nx", 64)
	expectCuts(t, x, "xn", 64)
	expectCuts(t, x, "nrf", 64)
	expectCuts(t, api.Lexicon{}, "n", 64)
}

// P5.8: the order of cuts: weight, then entry, ending and clitics of the first form that differs.
func TestCutsOrder(t *testing.T) {
	x := parse(t, "word a 1 - 2\nword ab 1 - 1\nword b 1 - 0\nending 1 b x 0\nending 1 b y 0\nclitic b z 0\nclitic b w 0\n")
	expectCuts(t, x, "ab", 64, cut(1, form(1, -1)), cut(2, form(0, -1), form(2, -1)), cut(2, form(0, -1, 0)), cut(2, form(0, -1, 1)), cut(2, form(0, 0)), cut(2, form(0, 1)))
	expectCuts(t, x, "ab", 4, cut(1, form(1, -1)), cut(2, form(0, -1), form(2, -1)), cut(2, form(0, -1, 0)), cut(2, form(0, -1, 1)))
	x = parse(t, "word aaa 1 - 3\nword aa 1 - 2\nword a 1 - 1\n")
	expectCuts(t, x, "aaa", 64, cut(3, form(0, -1)), cut(3, form(1, -1), form(2, -1)), cut(3, form(2, -1), form(1, -1)), cut(3, form(2, -1), form(2, -1), form(2, -1)))
	x = parse(t, "word a 1 - 1\nclitic a b 1\nclitic a c 1\nclitic a d 1\n")
	expectCuts(t, x, "aa", 64, cut(2, form(0, -1), form(0, -1)), cut(2, form(0, -1, 0)), cut(2, form(0, -1, 1)), cut(2, form(0, -1, 2)))
	expectCuts(t, x, "aaa", 5, cut(3, form(0, -1), form(0, -1), form(0, -1)), cut(3, form(0, -1), form(0, -1, 0)), cut(3, form(0, -1), form(0, -1, 1)), cut(3, form(0, -1), form(0, -1, 2)), cut(3, form(0, -1, 0), form(0, -1)))
}

// P5.8: how many cuts may be asked for.
func TestCutsMost(t *testing.T) {
	x := crowd(2, 0, 0)
	s := strings.Repeat("a", 7)
	for most, want := range map[int]api.Errno{0: api.ErrArg, -1: api.ErrArg, 65: api.ErrArg, -1 << 63: api.ErrArg, 1<<63 - 1: api.ErrArg, 1: api.OK, 2: api.OK, 63: api.OK, 64: api.OK} {
		got, e := lexicon.Cuts(x, s, most)
		if want != api.OK {
			expectError(t, "Cuts", got, e, want)
		} else if e != api.OK || len(got) != most {
			t.Errorf("Cuts with %d are %d, %d", most, len(got), e)
		}
	}
	got, e := lexicon.Cuts(broken(), "a", 0)
	expectError(t, "Cuts of a lexicon that is not valid", got, e, api.ErrEnding)
}

// P5.8 to P5.10: cuts, said again.
func TestCutsSaidAgain(t *testing.T) {
	d := dice(3)
	long := 0
	for range 1500 {
		x, s := d.roll(), d.speech(9)
		forms := bySounds(x)
		want := cutsOf(x, forms, s)
		if len(want) > 64 {
			long++
		}
		most := 1 + d.below(64)
		if d.below(2) == 0 {
			most = 64
		}
		got, e := lexicon.Cuts(x, s, most)
		if e != api.OK || !slices.EqualFunc(got, want[:min(most, len(want))], sameCut) {
			t.Fatalf("Cuts(%v, %q, %d) = %v, %d, want %v", x, s, most, got, e, want)
		}
		if n, e := lexicon.Ways(x, s); n != len(want) || e != api.OK {
			t.Fatalf("Ways(%v, %q) = %d, %d, want %d", x, s, n, e, len(want))
		}
		reach := len(s)
		for len(cutsOf(x, forms, s[:reach])) == 0 {
			reach--
		}
		if n, e := lexicon.Reach(x, s); n != reach || e != api.OK {
			t.Fatalf("Reach(%v, %q) = %d, %d, want %d", x, s, n, e, reach)
		}
	}
	if long < 50 {
		t.Errorf("only %d lines have more than 64 cuts", long)
	}
}

// P5.8: the largest lexicon, and sounds that are forms wherever they are cut.
func TestCutsOfLargest(t *testing.T) {
	x, s := crowd(200, 40, 10), strings.Repeat("a", 64)
	got, e := lexicon.Cuts(x, s, 64)
	if e != api.OK || len(got) != 64 {
		t.Fatalf("Cuts are %d, %d", len(got), e)
	}
	// Each part of a form weighs at least 1 and has one sound, so 64 sounds weigh
	// at least 64. Of the cuts that weigh no more, the first one in order has no
	// endings or clitics, and the entry 199 is the only one that weighs 1.
	first := lexicon.Cut{Weight: 64}
	for i := range got {
		if got[i].Weight < 64 || i > 0 && compareCuts(got[i-1], got[i]) >= 0 {
			t.Fatalf("the cut %d is %v", i, got[i])
		}
		all := ""
		for _, f := range got[i].Forms {
			all += soundsOf(x, f)
		}
		if all != s || weightOf(x, got[i].Forms...) != got[i].Weight {
			t.Fatalf("the cut %d is %v", i, got[i])
		}
	}
	for range 64 {
		first.Forms = append(first.Forms, form(199, -1))
	}
	if !sameCut(got[0], first) {
		t.Errorf("the first cut is %v", got[0])
	}
	if n, e := lexicon.Ways(x, s); n != api.MaxCount || e != api.OK {
		t.Errorf("Ways = %d, %d", n, e)
	}
	if n, e := lexicon.Reach(x, s[:63]+"b"); n != 63 || e != api.OK {
		t.Errorf("Reach = %d, %d", n, e)
	}
}

// P5.9: how many cuts there are, and that the number stays at MaxCount.
func TestWays(t *testing.T) {
	x := parse(t, example)
	for s, want := range map[string]int{"n": 1, "nn": 1, "nfr": 2, "nfrn": 2, "nfrnfr": 4, "nfrt": 1, "x": 0, "nx": 0, "xn": 0, "nrf": 0, "nt": 0, "f": 0} {
		if n, e := lexicon.Ways(x, s); n != want || e != api.OK {
			t.Errorf("Ways(%q) = %d, %d, want %d", s, n, e, want)
		}
	}
	two, three := crowd(2, 0, 0), crowd(3, 0, 0)
	for length, want := range map[int]int{1: 2, 10: 1 << 10, 39: 1 << 39, 40: 1 << 40, 41: 1 << 40, 64: 1 << 40} {
		if n, e := lexicon.Ways(two, strings.Repeat("a", length)); n != want || e != api.OK {
			t.Errorf("Ways of %d sounds = %d, %d, want %d", length, n, e, want)
		}
	}
	for length, want := range map[int]int{25: 847288609443, 26: 1 << 40, 64: 1 << 40} {
		if n, e := lexicon.Ways(three, strings.Repeat("a", length)); n != want || e != api.OK {
			t.Errorf("Ways of %d sounds by three words = %d, %d, want %d", length, n, e, want)
		}
	}
	sums := parse(t, "word a 1 - 0\nword aa 1 - 0\n")
	for length, want := range map[int]int{2: 2, 3: 3, 4: 5, 58: 956722026041, 59: 1 << 40} {
		if n, e := lexicon.Ways(sums, strings.Repeat("a", length)); n != want || e != api.OK {
			t.Errorf("Ways of %d sounds by words of one or two = %d, %d, want %d", length, n, e, want)
		}
	}
	if n, e := lexicon.Ways(two, strings.Repeat("a", 63)+"b"); n != 0 || e != api.OK {
		t.Errorf("Ways of sounds that no word ends with = %d, %d", n, e)
	}
	if n, e := lexicon.Ways(api.Lexicon{}, "a"); n != 0 || e != api.OK {
		t.Errorf("Ways in an empty lexicon = %d, %d", n, e)
	}
}

// P5.10
func TestReach(t *testing.T) {
	x := parse(t, example)
	for s, want := range map[string]int{"nfx": 2, "nx": 1, "x": 0, "fn": 0, "nfr": 3, "nfrtx": 4, "nrfn": 2, "nnnx": 3, "nfrn": 4, "nt": 1, "nfrnt": 4, "N": 0} {
		if n, e := lexicon.Reach(x, s); n != want || e != api.OK {
			t.Errorf("Reach(%q) = %d, %d, want %d", s, n, e, want)
		}
	}
	x = parse(t, "word a 1 - 0\nword abcd 1 - 0\nword cc 1 - 0\nclitic dd x 0\n")
	for s, want := range map[string]int{"abcdx": 4, "abcx": 1, "abccx": 1, "abcddd": 6, "abcdd": 4, "accdda": 6, "acdda": 1, "addddcc": 3} {
		if n, e := lexicon.Reach(x, s); n != want || e != api.OK {
			t.Errorf("Reach(%q) = %d, %d, want %d", s, n, e, want)
		}
	}
	if n, e := lexicon.Reach(api.Lexicon{}, "a"); n != 0 || e != api.OK {
		t.Errorf("Reach in an empty lexicon = %d, %d", n, e)
	}
}
