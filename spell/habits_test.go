package spell_test

import (
	"reflect"
	"slices"
	"strings"
	"testing"

	"ostracon/api"
	"ostracon/lexicon"
	"ostracon/read"
	"ostracon/spell"
)

// P7.1
func TestCheckHabits(t *testing.T) {
	h, free, strict := example(t)
	for _, b := range []api.Habits{free, strict} {
		if e := spell.CheckHabits(h, b); e != api.OK {
			t.Errorf("CheckHabits of %v = %d", b, e)
		}
	}
	for _, x := range []struct {
		numbers         []int
		repeat, closing int
		want            api.Errno
	}{
		{[]int{-1, 0, 1000, -1, 0, 1000, 1, 999}, api.Never, api.Never, api.OK},
		{[]int{-2, 0, 0, 0, 0, 0, 0, 0}, api.May, api.May, api.ErrHabits},
		{[]int{0, 0, 0, 0, 0, 0, 0, 1001}, api.May, api.May, api.ErrHabits},
		{[]int{0, 0, 0, -1 << 63, 0, 0, 0, 0}, api.May, api.May, api.ErrHabits},
		{make([]int, 7), api.May, api.May, api.ErrHabits},
		{make([]int, 9), api.May, api.May, api.ErrHabits},
		{nil, api.May, api.May, api.ErrHabits},
		{make([]int, 8), -1, api.May, api.ErrHabits},
		{make([]int, 8), 3, api.May, api.ErrHabits},
		{make([]int, 8), api.May, -1, api.ErrHabits},
		{make([]int, 8), api.May, 3, api.ErrHabits},
		{make([]int, 8), api.Always, api.Never, api.OK},
		{make([]int, 8), api.Never, api.Always, api.OK},
	} {
		b := api.Habits{Signs: x.numbers, Repeat: x.repeat, Close: x.closing}
		if e := spell.CheckHabits(h, b); e != x.want {
			t.Errorf("CheckHabits of %v = %d, want %d", b, e, x.want)
		}
	}
	h.List.Signs = nil
	if e := spell.CheckHabits(h, api.Habits{}); e != api.OK {
		t.Errorf("CheckHabits without signs = %d", e)
	}
	h.Costs.Open = 1001
	if e := spell.CheckHabits(h, free); e != api.ErrCosts {
		t.Errorf("CheckHabits with a house that is not valid = %d", e)
	}
}

// P7.1
func TestPrice(t *testing.T) {
	h, free, strict := example(t)
	his := api.Form{Entry: 0, Ending: -1, Clitics: []int{0}}
	for _, x := range []struct {
		f            api.Form
		spelling     string
		free, strict int // -1: it does not keep them
	}{
		{nfr, "B1/s:nfr D1/r:r F1/c:good", 3, 8},
		{nfr, "B1/s:nfr B1/r:nfr F1/c:good", 3, 13},
		{nfr, "B1/s:nfr F1/c:good", 3, -1},
		{nfr, "B1/s:nfr D1/r:r", 7, -1},
		{nfr, "B1/s:nfr", 7, -1},
		{nfr, "E1/w:nfr D1/r:r F1/c:good", 2, -1},
		{nfr, "A1/s:n C1/s:f D1/s:r F1/c:good", 5, 5},
		{n, "H1/w:n A1/r:n", 1, 1},
		{n, "H1/w:n H1/r:n", 1, 1},
		{n, "H1/w:n", 1, -1},
		{n, "H1/s:n", 2, 2},
		{his, "B1/s:nfr D1/r:r F1/c:good C1/s:f", 7, 12},
		{his, "B1/s:nfr F1/c:good C1/s:f", 7, -1},
	} {
		l, uses := strokes(t, h, x.spelling)
		w := api.Spelled{Form: x.f, Uses: uses}
		if cost, e := spell.Price(h, free, l, w); cost != x.free || e != api.OK {
			t.Errorf("Price with P of %s = %d, %d, want %d", x.spelling, cost, e, x.free)
		}
		cost, e := spell.Price(h, strict, l, w)
		if x.strict == -1 {
			expectError(t, "Price with Q of "+x.spelling, cost, e, api.ErrSpell)
		} else if cost != x.strict || e != api.OK {
			t.Errorf("Price with Q of %s = %d, %d, want %d", x.spelling, cost, e, x.strict)
		}
	}
}

// P7.1: what Never, May and Always say.
func TestPriceByHabits(t *testing.T) {
	h, free, _ := example(t)
	for _, x := range []struct {
		spelling        string
		repeat, closing [3]bool // whether it keeps Never, May and Always
	}{
		{"B1/s:nfr", [3]bool{true, true, false}, [3]bool{true, true, false}},
		{"B1/s:nfr F1/c:good", [3]bool{true, true, false}, [3]bool{false, true, true}},
		{"B1/s:nfr D1/r:r", [3]bool{false, true, true}, [3]bool{true, true, false}},
		{"E1/w:nfr B1/r:nfr F1/c:good", [3]bool{false, true, true}, [3]bool{false, true, true}},
		{"E1/w:nfr", [3]bool{true, true, false}, [3]bool{true, true, false}},
		{"A1/s:n C1/s:f D1/s:r", [3]bool{true, true, true}, [3]bool{true, true, false}},
	} {
		l, uses := strokes(t, h, x.spelling)
		for habit := range 3 {
			b := free
			b.Repeat = habit
			if _, e := spell.Price(h, b, l, api.Spelled{Form: nfr, Uses: uses}); (e == api.OK) != x.repeat[habit] {
				t.Errorf("Price of %s with Repeat %d: %d", x.spelling, habit, e)
			}
			b = free
			b.Close = habit
			if _, e := spell.Price(h, b, l, api.Spelled{Form: nfr, Uses: uses}); (e == api.OK) != x.closing[habit] {
				t.Errorf("Price of %s with Close %d: %d", x.spelling, habit, e)
			}
		}
	}
	// A word whose entry has no class keeps Always without a class.
	b := free
	b.Close = api.Always
	l, uses := strokes(t, h, "A1/s:n")
	if cost, e := spell.Price(h, b, l, api.Spelled{Form: n, Uses: uses}); cost != 2 || e != api.OK {
		t.Errorf("Price of a word without a class = %d, %d", cost, e)
	}
}

// P7.1: a repetition must stand behind each use that can be repeated, not behind one.
func TestEachIsRepeated(t *testing.T) {
	h := house(t, "A 1x1 s:ab@1-1 w:abab@1-1\nB 1x1 s:b@1-1\n", "word abab 1 - 0\n", api.Costs{})
	b := anything(h)
	b.Repeat = api.Always
	for spelling, want := range map[string]api.Errno{
		"A/s:ab B/r:b A/s:ab B/r:b": api.OK,
		"A/s:ab B/r:b A/s:ab":       api.ErrSpell,
		"A/s:ab A/s:ab B/r:b":       api.ErrSpell,
		"A/w:abab B/r:b":            api.OK,
		"A/w:abab":                  api.ErrSpell,
	} {
		l, uses := strokes(t, h, spelling)
		if _, e := spell.Price(h, b, l, api.Spelled{Form: nfr, Uses: uses}); e != want {
			t.Errorf("Price of %s = %d, want %d", spelling, e, want)
		}
	}
	all, e := spell.List(h, b, nfr, 64)
	expectSpellings(t, "List", h, all, e, "0: A/w:abab A/r:ab", "0: A/w:abab B/r:b",
		"0: A/s:ab A/r:ab A/s:ab A/r:ab", "0: A/s:ab A/r:ab A/s:ab B/r:b", "0: A/s:ab B/r:b A/s:ab A/r:ab", "0: A/s:ab B/r:b A/s:ab B/r:b")
}

// P7.1: the errors of Price, in order.
func TestErrorsOfPrice(t *testing.T) {
	h, free, strict := example(t)
	bad, wrong := h, free
	bad.Period = 0
	wrong.Repeat = 3
	l, uses := strokes(t, h, "B1/s:nfr")
	word := api.Spelled{Form: nfr, Uses: uses}
	none := api.Spelled{Form: api.Form{Entry: 2}, Uses: uses}
	for _, x := range []struct {
		what string
		h    api.House
		b    api.Habits
		line []int
		w    api.Spelled
		want api.Errno
	}{
		{"a house that is not valid", bad, wrong, make([]int, 61), none, api.ErrPeriod},
		{"habits that are not valid", h, wrong, make([]int, 61), none, api.ErrHabits},
		{"too many signs", h, strict, slices.Repeat([]int{8}, 61), none, api.ErrMany},
		{"60 signs", h, strict, make([]int, 60), word, api.ErrUse},
		{"no sign", h, strict, []int{8}, none, api.ErrSign},
		{"no sign", h, strict, []int{-1}, none, api.ErrSign},
		{"no word", h, strict, l, none, api.ErrWord},
		{"another word", h, strict, l, api.Spelled{Form: n, Uses: uses}, api.ErrUse},
		{"another sign", h, strict, line(t, h, "A1"), word, api.ErrUse},
		{"no signs", h, strict, nil, api.Spelled{Form: nfr}, api.ErrUse},
		{"an open word", h, strict, l, word, api.ErrSpell},
	} {
		cost, e := spell.Price(x.h, x.b, x.line, x.w)
		expectError(t, "Price with "+x.what, cost, e, x.want)
	}
}

// P7.1: Price accepts exactly what keeps the habits.
func TestPriceAsTold(t *testing.T) {
	d := dice(2)
	kept, broken := 0, 0
	for range 2000 {
		h := d.roll()
		b := d.habits(h)
		l := d.line(h, 5)
		words, e := read.Words(h, l, 0)
		if e != api.OK {
			t.Fatalf("Words: %d", e)
		}
		for _, w := range words {
			signs := l[:w.To]
			want, ok := costOf(h, b, signs, w.Word)
			got, e := spell.Price(h, b, signs, w.Word)
			if ok && (got != want || e != api.OK) || !ok && (got != 0 || e != api.ErrSpell) {
				t.Fatalf("Price in %v with %v of %v as %v = %d, %d, want %d, %t", h, b, signs, w.Word, got, e, want, ok)
			}
			kept++
			if !ok {
				broken++
			}
		}
	}
	if kept < 2000 || broken < 500 {
		t.Errorf("%d words, %d of them break the habits", kept, broken)
	}
}

func expectHabits(t *testing.T, what string, got api.Habits, e api.Errno, want api.Habits) {
	t.Helper()
	if e != api.OK || got.Repeat != want.Repeat || got.Close != want.Close || !slices.Equal(got.Signs, want.Signs) {
		t.Errorf("%s = %v, %d, want %v", what, got, e, want)
	}
}

// P7.5
func TestLearn(t *testing.T) {
	h, _, _ := example(t)
	for _, x := range []struct {
		lines string
		want  api.Habits
	}{
		{"B1 D1 F1|B1 F1 C1", api.Habits{Signs: []int{-1, 0, 1, 1, -1, 0, -1, -1}, Repeat: api.May, Close: api.Always}},
		{"B1 F1|B1 F1", api.Habits{Signs: []int{-1, 0, -1, -1, -1, 0, -1, -1}, Repeat: api.Never, Close: api.Always}},
		{"E1 D1|B1 D1", api.Habits{Signs: []int{-1, 1, -1, 0, 1, -1, -1, -1}, Repeat: api.Always, Close: api.Never}},
		{"B1 D1 F1|B1 D1", api.Habits{Signs: []int{-1, 0, -1, 0, -1, 1, -1, -1}, Repeat: api.Always, Close: api.May}},
		{"A1 A1 A1 C1", api.Habits{Signs: []int{0, -1, 2, -1, -1, -1, -1, -1}, Repeat: api.May, Close: api.May}},
		{"H1 A1 A1", api.Habits{Signs: []int{0, -1, -1, -1, -1, -1, -1, 1}, Repeat: api.Always, Close: api.May}},
		{"H1 B1 D1", api.Habits{Signs: []int{-1, 0, -1, 0, -1, -1, -1, 0}, Repeat: api.May, Close: api.Never}},
		{"H1 H1 D1 B1", api.Habits{}}, // no reading
		{"|", api.Habits{Signs: []int{-1, -1, -1, -1, -1, -1, -1, -1}, Repeat: api.May, Close: api.May}},
	} {
		var lines [][]int
		for codes := range strings.SplitSeq(x.lines, "|") {
			lines = append(lines, line(t, h, codes))
		}
		got, e := spell.Learn(h, lines)
		if x.want.Signs == nil {
			expectError(t, "Learn of "+x.lines, got, e, api.ErrReading)
			continue
		}
		expectHabits(t, "Learn of "+x.lines, got, e, x.want)
	}
	got, e := spell.Learn(h, nil)
	expectHabits(t, "Learn of nothing", got, e, api.Habits{Signs: slices.Repeat([]int{-1}, 8), Repeat: api.May, Close: api.May})
	h.List.Signs = nil
	got, e = spell.Learn(h, make([][]int, 40))
	expectHabits(t, "Learn without signs", got, e, api.Habits{Repeat: api.May, Close: api.May})
}

// P7.5: no number is more than MaxCost.
func TestLearnRareSigns(t *testing.T) {
	h := house(t, "A 1x1 s:a@1-1\nB 1x1 s:b@1-1\nC 1x1 s:c@1-1\n", "word a 1 - 0\nword b 1 - 0\nword c 1 - 0\n", api.Costs{})
	lines := slices.Repeat([][]int{make([]int, 60)}, 16)
	lines = append(lines, make([]int, 42), []int{1, 2, 2, 1, 1}) // 1002 times A
	got, e := spell.Learn(h, lines)
	expectHabits(t, "Learn", got, e, api.Habits{Signs: []int{0, 999, 1000}, Repeat: api.May, Close: api.May})
	lines[17] = []int{1}
	got, e = spell.Learn(h, lines)
	expectHabits(t, "Learn", got, e, api.Habits{Signs: []int{0, 1000, -1}, Repeat: api.May, Close: api.May})
	lines = slices.Repeat([][]int{make([]int, 60)}, 39)
	got, e = spell.Learn(h, append(lines, []int{1}))
	expectHabits(t, "Learn of many", got, e, api.Habits{Signs: []int{0, 1000, -1}, Repeat: api.May, Close: api.May})
}

// P7.5: the errors of Learn, in order.
func TestErrorsOfLearn(t *testing.T) {
	h, _, _ := example(t)
	bad := h
	bad.Costs.Spell = -1
	good, unread, long, none := []int{1}, []int{3}, make([]int, 61), []int{8}
	for _, x := range []struct {
		what  string
		h     api.House
		lines [][]int
		want  api.Errno
	}{
		{"a house that is not valid", bad, make([][]int, 41), api.ErrCosts},
		{"41 lines", h, append(make([][]int, 40), none), api.ErrMany},
		{"no reading", h, [][]int{good, unread, none}, api.ErrReading},
		{"no sign", h, [][]int{good, none, unread}, api.ErrSign},
		{"a long line", h, [][]int{good, long, none}, api.ErrMany},
	} {
		got, e := spell.Learn(x.h, x.lines)
		expectError(t, "Learn with "+x.what, got, e, x.want)
	}
	if got, e := spell.Learn(h, slices.Repeat([][]int{good}, 40)); e != api.OK {
		t.Errorf("Learn of 40 lines = %v, %d", got, e)
	}
}

// habitOf is Always if something was done all times, Never if it never was, and
// otherwise May.
func habitOf(done []bool) int {
	if len(done) == 0 || slices.Contains(done, true) && slices.Contains(done, false) {
		return api.May
	}
	if done[0] {
		return api.Always
	}
	return api.Never
}

// P7.5
func TestLearnAsTold(t *testing.T) {
	d := dice(3)
	var repeats, closings [3]int
	for range 3000 {
		h := d.roll()
		lines := d.readable(h, 4)
		got, e := spell.Learn(h, lines)
		var repeat, closing []bool
		for _, l := range lines {
			best, e := read.Best(h, l)
			if e != api.OK {
				t.Fatalf("Best: %d", e)
			}
			for _, w := range best.Words {
				for i, u := range w.Uses {
					if echoes(u) {
						repeat = append(repeat, repeated(w.Uses, i))
					}
				}
				if h.Lexicon.Entries[w.Form.Entry].Class != "" {
					closing = append(closing, has(w.Uses, api.Closes))
				}
			}
		}
		want := api.Habits{Repeat: habitOf(repeat), Close: habitOf(closing)}
		most := 0
		for sign := range h.List.Signs {
			most = max(most, times(lines, sign))
		}
		for sign := range h.List.Signs {
			number := most - times(lines, sign)
			if times(lines, sign) == 0 {
				number = -1
			}
			want.Signs = append(want.Signs, number)
		}
		expectHabits(t, "Learn", got, e, want)
		repeats[got.Repeat]++
		closings[got.Close]++
	}
	if slices.Min(append(repeats[:], closings[:]...)) < 50 {
		t.Errorf("Repeat was learned %v times, Close %v times", repeats, closings)
	}
}

// times is how often a sign stands in lines.
func times(lines [][]int, sign int) int {
	all := slices.Concat(lines...)
	return len(all) - len(slices.DeleteFunc(slices.Clone(all), func(s int) bool { return s == sign }))
}

// readable returns at most most lines that have readings.
func (d *dice) readable(h api.House, most int) [][]int {
	var lines [][]int
	for range d.below(most + 1) {
		l := d.line(h, 4)
		if _, e := read.Best(h, l); e == api.OK {
			lines = append(lines, l)
		}
	}
	return lines
}

// P7.5
func TestCommon(t *testing.T) {
	h, free, strict := example(t)
	got, e := spell.Common(h, free, strict)
	expectHabits(t, "Common of P and Q", got, e, strict)
	got, e = spell.Common(h, strict, free)
	expectHabits(t, "Common of Q and P", got, e, strict)
	a := api.Habits{Signs: []int{-1, 0, 5, 7, -1, 1000, 0, 3}, Repeat: api.Never, Close: api.May}
	b := api.Habits{Signs: []int{9, -1, 7, 5, -1, 0, 0, 4}, Repeat: api.May, Close: api.Never}
	got, e = spell.Common(h, a, b)
	expectHabits(t, "Common", got, e, api.Habits{Signs: []int{-1, -1, 7, 7, -1, 1000, 0, 4}, Repeat: api.Never, Close: api.Never})
	for i, want := range [3][3]int{{0, 0, -1}, {0, 1, 2}, {-1, 2, 2}} {
		for j, habit := range want {
			x, y := free, free
			x.Repeat, y.Repeat = i, j
			got, e := spell.Common(h, x, y)
			x.Repeat, y.Repeat, x.Close, y.Close = api.May, api.May, i, j
			got2, e2 := spell.Common(h, x, y)
			if habit == -1 {
				expectError(t, "Common with another Repeat", got, e, api.ErrHabits)
				expectError(t, "Common with another Close", got2, e2, api.ErrHabits)
				continue
			}
			expectHabits(t, "Common", got, e, api.Habits{Signs: free.Signs, Repeat: habit, Close: api.May})
			expectHabits(t, "Common", got2, e2, api.Habits{Signs: free.Signs, Repeat: api.May, Close: habit})
		}
	}
	wrong := free
	wrong.Signs = wrong.Signs[1:]
	got, e = spell.Common(h, wrong, free)
	expectError(t, "Common with first habits that are not valid", got, e, api.ErrHabits)
	got, e = spell.Common(h, free, wrong)
	expectError(t, "Common with second habits that are not valid", got, e, api.ErrHabits)
	h.Lexicon.Entries[0].Kind = 0
	got, e = spell.Common(h, wrong, free)
	expectError(t, "Common with a house that is not valid", got, e, api.ErrWord)
}

// P7.1: the cost is that of read.Price, whatever the lexicon and the costs.
func TestPriceOfWeights(t *testing.T) {
	h := house(t, "A 1x1 s:a@1-1\nB 1x1 w:a@1-1\nC 1x1 c:c@1-1\n", "word a 1 c 1000\nending 1 a x 1000\nclitic a x 1000\nclitic a y 1000\nclitic a z 1000\n",
		api.Costs{Spell: 1000, Stand: 999, Repeat: 998, Close: 997, Open: 996})
	b := api.Habits{Signs: []int{1000, 1000, 1000}, Repeat: api.May, Close: api.May}
	f := api.Form{Entry: 0, Ending: 0, Clitics: []int{0, 1, 2}}
	if e := lexicon.CheckForm(h.Lexicon, f); e != api.OK {
		t.Fatalf("CheckForm: %d", e)
	}
	best, e := spell.Best(h, b, f)
	expectSpellings(t, "Best", h, []api.Spelling{best}, e, "15995: B/w:a A/s:a A/s:a A/s:a A/s:a")
	all, e := spell.List(h, b, f, 64)
	if e != api.OK || len(all) != 6 {
		t.Fatalf("List = %v, %d", all, e)
	}
	for _, s := range all {
		w := api.Spelled{Form: f, Uses: s.Uses}
		if cost, e := spell.Price(h, b, s.Signs, w); cost != s.Cost || e != api.OK {
			t.Errorf("Price of %s = %d, %d", showSpelling(h, s), cost, e)
		}
	}
	if !reflect.DeepEqual(all[0], best) {
		t.Errorf("List begins with %v, Best is %v", all[0], best)
	}
}
