package spell_test

import (
	"fmt"
	"reflect"
	"slices"
	"strings"
	"testing"
	"time"

	"ostracon/api"
	"ostracon/spell"
)

// P7.2
func TestExampleSpellings(t *testing.T) {
	h, free, strict := example(t)
	expectCount(t, h, free, nfr, 16)
	expectCount(t, h, strict, nfr, 4)
	expectCount(t, h, free, n, 5)
	all, e := spell.List(h, free, nfr, 5)
	expectSpellings(t, "List with P", h, all, e, "2: E1/w:nfr F1/c:good", "2: E1/w:nfr B1/r:nfr F1/c:good", "2: E1/w:nfr D1/r:r F1/c:good",
		"3: B1/s:nfr F1/c:good", "3: B1/s:nfr B1/r:nfr F1/c:good")
	all, e = spell.List(h, strict, nfr, 64)
	expectSpellings(t, "List with Q", h, all, e, "5: A1/s:n C1/s:f D1/s:r F1/c:good", "5: H1/s:n C1/s:f D1/s:r F1/c:good",
		"8: B1/s:nfr D1/r:r F1/c:good", "13: B1/s:nfr B1/r:nfr F1/c:good")
	best, e := spell.Best(h, free, nfr)
	expectSpellings(t, "Best", h, []api.Spelling{best}, e, "2: E1/w:nfr F1/c:good")
}

// P7.2: the example of DOC.md.
func TestExampleOfTheWhole(t *testing.T) {
	h := house(t, "A1 12x12 s:n@1-1\nB2 6x3 s:fr@1-1\nC3 4x4 c:good@1-1\nD4 4x4 w:nfr@1-1\n", "word nfr 1 good 2\n", api.Costs{Spell: 1, Open: 4})
	best, e := spell.Best(h, anything(h), nfr)
	expectSpellings(t, "Best", h, []api.Spelling{best}, e, "2: D4/w:nfr C3/c:good")
}

// P7.2: Count, List and Best are those of all signs and uses that keep the habits.
func TestSpellingsAsTold(t *testing.T) {
	d := dice(1)
	told, none, many := 0, 0, 0
	for range 2500 {
		h := d.roll()
		b, f, most := d.habits(h), d.form(h), 1+d.below(64)
		want, ok := spellingsOf(h, b, f)
		if !ok {
			continue
		}
		told++
		got, e := spell.Count(h, b, f)
		if got != len(want) || e != api.OK {
			t.Fatalf("Count in %v with %v of %v = %d, %d, want %d", h, b, f, got, e, len(want))
		}
		list, e := spell.List(h, b, f, most)
		best, e2 := spell.Best(h, b, f)
		if len(want) == 0 {
			none++
			expectError(t, "List", list, e, api.ErrSpell)
			expectError(t, "Best", best, e2, api.ErrSpell)
			continue
		}
		if len(want) > most {
			many++
		}
		want = want[:min(most, len(want))]
		if e != api.OK || !slices.EqualFunc(list, want, sameSpelling) {
			t.Fatalf("List in %v with %v of %v, %d = %q, %d, want %q", h, b, f, most, showSpellings(h, list), e, showSpellings(h, want))
		}
		if e2 != api.OK || !sameSpelling(best, want[0]) {
			t.Fatalf("Best in %v with %v of %v = %v, %d, want %v", h, b, f, best, e2, want[0])
		}
	}
	if told < 2000 || none < 500 || many < 100 {
		t.Errorf("of %d forms %d have no spelling, %d have more than are listed", told, none, many)
	}
}

func sameSpelling(a, b api.Spelling) bool { return reflect.DeepEqual(a, b) }

// P7.2: a spelling has at most 12 signs, also if more would be cheaper.
func TestMostSigns(t *testing.T) {
	words := "word aaaaaaaa 1 c 0\nending 1 aaaa x 0\nclitic aaaa x 0\nclitic aaaa y 0\nclitic aaaa z 0\n"
	h := house(t, "A 1x1 s:a@1-1\nB 1x1 s:aa@1-1\nC 1x1 c:c@1-1\n", words, api.Costs{})
	b := anything(h)
	b.Signs = []int{0, 100, 0}
	long := api.Form{Entry: 0, Ending: 0, Clitics: []int{0, 1, 2}}
	b.Repeat = api.Never
	expectCount(t, h, b, long, 1)
	best, e := spell.Best(h, b, long)
	expectSpellings(t, "Best", h, []api.Spelling{best}, e, "1200: "+strings.TrimSuffix(strings.Repeat("B/s:aa ", 12), " "))
	twelve, uses := strokes(t, h, strings.Repeat("B/s:aa ", 12))
	if cost, e := spell.Price(h, b, twelve, api.Spelled{Form: long, Uses: uses}); cost != 1200 || e != api.OK {
		t.Errorf("Price of 12 signs = %d, %d", cost, e)
	}
	thirteen, uses := strokes(t, h, "A/s:a A/s:a "+strings.Repeat("B/s:aa ", 11))
	cost, e := spell.Price(h, b, thirteen, api.Spelled{Form: long, Uses: uses})
	expectError(t, "Price of 13 signs", cost, e, api.ErrUse)

	b.Close = api.Always
	expectCount(t, h, b, long, 0)
	best, e = spell.Best(h, b, long)
	expectError(t, "Best that is to be closed", best, e, api.ErrSpell)
	b.Close = api.May
	b.Repeat = api.Always
	expectCount(t, h, b, long, 0)

	// Of 12 sounds there are 12 signs A, or less, with one that closes or without it.
	body := api.Form{Entry: 0, Ending: 0}
	b.Repeat, b.Close = api.Never, api.Always
	best, e = spell.Best(h, b, body)
	expectSpellings(t, "Best of twelve", h, []api.Spelling{best}, e, "100: "+strings.Repeat("A/s:a ", 10)+"B/s:aa C/c:c")
	expectCount(t, h, b, body, 232) // all ways to make 12 of ones and twos but twelve ones
	b.Close = api.Never
	expectCount(t, h, b, body, 233)
	best, e = spell.Best(h, b, body)
	expectSpellings(t, "Best of twelve that is open", h, []api.Spelling{best}, e, "0: "+strings.TrimSuffix(strings.Repeat("A/s:a ", 12), " "))
}

// alike returns a house of the word aaaa.. of some sounds, up to 12, each of
// which can be spelled with any of some signs.
func alike(t *testing.T, sounds, signs int) (api.House, api.Form) {
	list := ""
	for i := range signs {
		list += fmt.Sprintf("S%d 1x1 s:a@1-1\n", i)
	}
	h := house(t, list, "word aaaaaaaa 1 - 0\nword a 1 - 0\nword aa 1 - 0\nending 1 aa x 0\nending 1 aaaa y 0\n", api.Costs{})
	switch sounds {
	case 2:
		return h, api.Form{Entry: 2, Ending: -1}
	case 8:
		return h, api.Form{Entry: 0, Ending: -1}
	case 10:
		return h, api.Form{Entry: 0, Ending: 0}
	}
	return h, api.Form{Entry: 0, Ending: 1}
}

// P7.2 and R5: Count stays at MaxCount.
func TestMostSpellings(t *testing.T) {
	for _, x := range []struct{ sounds, signs, want int }{
		{2, 200, 200 * 200},
		{8, 31, 852891037441},                // 31 to the 8th
		{8, 32, api.MaxCount},                // 32 to the 8th is MaxCount
		{8, 33, api.MaxCount},                // it is more
		{10, 15, 576650390625},               // 15 to the 10th
		{10, 16, api.MaxCount},               // again MaxCount
		{12, 10, 1000000000000},              // 10 to the 12th
		{12, 11, api.MaxCount},               // more
		{12, 200, api.MaxCount},              // as many as there can be
		{10, 1, 1}, {12, 2, 4096}, {2, 1, 1}, // few
	} {
		h, f := alike(t, x.sounds, x.signs)
		expectCount(t, h, anything(h), f, x.want)
	}
	h, f := alike(t, 12, 200)
	list, e := spell.List(h, anything(h), f, 64)
	if e != api.OK || len(list) != 64 || !slices.Equal(list[63].Signs, []int{0, 0, 0, 0, 0, 0, 0, 0, 0, 0, 0, 63}) {
		t.Errorf("List: %v, %d", list, e)
	}
}

// P7.2: exactly MaxCount, and one less: a sum of spellings of several kinds.
func TestCountNearTheBound(t *testing.T) {
	// There are 32 signs a; of the 32 to the 8th spellings those are left out that
	// begin with a given sign, if it is not used.
	h, f := alike(t, 8, 33)
	b := anything(h)
	b.Signs[7] = -1
	expectCount(t, h, b, f, api.MaxCount)
	b.Signs[8] = -1
	expectCount(t, h, b, f, 852891037441)
}

// P7.2: the order of spellings of the same cost: by the number of signs, then at
// the first difference by the sign, by Kind, and by Text.
func TestOrderOfSpellings(t *testing.T) {
	h := house(t, "A 1x1 s:aa@1-1 s:a@1-1 w:aa@1-1\nB 1x1 s:a@1-1 c:c@1-1\nC 1x1 s:aaa@1-1\n", "word aa 1 c 0\nending 1 a x 0\n", api.Costs{})
	all, e := spell.List(h, anything(h), api.Form{Entry: 0, Ending: -1}, 64)
	expectSpellings(t, "List", h, all, e,
		"0: A/s:aa", "0: A/w:aa",
		"0: A/s:a A/s:a", "0: A/s:a B/s:a", "0: A/s:aa A/r:a", "0: A/s:aa A/r:aa", "0: A/s:aa B/r:a", "0: A/s:aa B/c:c",
		"0: A/w:aa A/r:a", "0: A/w:aa A/r:aa", "0: A/w:aa B/r:a", "0: A/w:aa B/c:c", "0: B/s:a A/s:a", "0: B/s:a B/s:a",
		"0: A/s:a A/s:a B/c:c", "0: A/s:a B/s:a B/c:c", "0: A/s:aa A/r:a B/c:c", "0: A/s:aa A/r:aa B/c:c", "0: A/s:aa B/r:a B/c:c",
		"0: A/w:aa A/r:a B/c:c", "0: A/w:aa A/r:aa B/c:c", "0: A/w:aa B/r:a B/c:c", "0: B/s:a A/s:a B/c:c", "0: B/s:a B/s:a B/c:c")
	all, e = spell.List(h, anything(h), api.Form{Entry: 0, Ending: 0}, 4)
	expectSpellings(t, "List of an ending", h, all, e, "0: C/s:aaa", "0: A/s:a A/s:aa", "0: A/s:aa A/s:a", "0: A/s:aa B/s:a")
}

// P7.2: what the habits say of repeating and closing.
func TestHabitsOfSpellings(t *testing.T) {
	h, free, _ := example(t)
	for _, x := range []struct {
		repeat, closing, nfr, his, n int
	}{
		{api.Never, api.Never, 4, 4, 3},
		{api.Never, api.May, 8, 8, 3},
		{api.Never, api.Always, 4, 4, 3},
		{api.May, api.Never, 8, 8, 5},
		{api.May, api.May, 16, 16, 5},
		{api.May, api.Always, 8, 8, 5},
		{api.Always, api.Never, 6, 6, 4},
		{api.Always, api.May, 12, 12, 4},
		{api.Always, api.Always, 6, 6, 4},
	} {
		b := free
		b.Repeat, b.Close = x.repeat, x.closing
		expectCount(t, h, b, nfr, x.nfr)
		expectCount(t, h, b, api.Form{Entry: 0, Ending: -1, Clitics: []int{0}}, x.his)
		expectCount(t, h, b, n, x.n)
	}
}

// P7.2: a sign can spell up to 8 sounds, and repeat them.
func TestLongSounds(t *testing.T) {
	h := house(t, "A 1x1 s:abcdefgh@1-1\nB 1x1 s:abcdefg@1-1\nC 1x1 s:h@1-1 w:abcdefgh@1-1\n", "word abcdefgh 1 - 0\n", api.Costs{})
	all, e := spell.List(h, anything(h), nfr, 64)
	expectSpellings(t, "List", h, all, e, "0: A/s:abcdefgh", "0: C/w:abcdefgh", "0: A/s:abcdefgh A/r:abcdefgh", "0: A/s:abcdefgh C/r:h",
		"0: B/s:abcdefg C/s:h", "0: C/w:abcdefgh A/r:abcdefgh", "0: C/w:abcdefgh C/r:h", "0: B/s:abcdefg B/r:abcdefg C/s:h")
}

// P7.2: what leads nowhere does not count, however little it costs.
func TestDeadEnds(t *testing.T) {
	// Behind x one of the signs D and A goes on to the end, the other one does not.
	for _, signs := range []string{"A 1x1 s:a@1-1\nB 1x1 s:bc@1-1\nD 1x1 s:ab@1-1\n", "A 1x1 s:ab@1-1\nB 1x1 s:c@1-1\nD 1x1 s:a@1-1\n"} {
		h := house(t, "X 1x1 s:x@1-1\nC 1x1 s:xabc@1-1\n"+signs, "word xabc 1 - 0\n", api.Costs{})
		b := api.Habits{Signs: []int{0, 5, 10, 0, 0}, Repeat: api.Never}
		best, e := spell.Best(h, b, nfr)
		expectSpellings(t, "Best", h, []api.Spelling{best}, e, "5: C/s:xabc")
		b.Signs[1] = 11
		best, e = spell.Best(h, b, nfr)
		if e != api.OK || best.Cost != 10 || !slices.Equal(best.Signs, []int{0, 2, 3}) {
			t.Errorf("Best with %s = %v, %d", signs, best, e)
		}
	}
}

// P7.2: the numbers of signs are added once for each time that they stand.
func TestNumbersOfSigns(t *testing.T) {
	h := house(t, "A 1x1 s:a@1-1\nB 1x1 s:ab@1-1\nC 1x1 s:b@1-1\n", "word aba 1 - 5\n", api.Costs{Spell: 1, Repeat: 2})
	b := api.Habits{Signs: []int{10, 100, 1000}, Repeat: api.May}
	all, e := spell.List(h, b, nfr, 64)
	expectSpellings(t, "List", h, all, e, "117: B/s:ab A/s:a", "219: B/s:ab B/r:ab A/s:a", "1028: A/s:a C/s:b A/s:a", "1119: B/s:ab C/r:b A/s:a")
	b.Signs[0] = -1
	all, e = spell.List(h, b, nfr, 64)
	expectError(t, "List", all, e, api.ErrSpell)
}

// P7.2: values that are not in use in the period of the house spell nothing.
func TestPeriodOfTheHouse(t *testing.T) {
	h, _, _ := example(t)
	h.List.Periods = 2
	h.List.Signs[4].Values[0].To = 2
	h.List.Signs[5].Values[0].From, h.List.Signs[5].Values[0].To = 2, 2
	expectCount(t, h, anything(h), nfr, 8)
	h.Period = 2
	all, e := spell.List(h, anything(h), nfr, 64)
	expectSpellings(t, "List", h, all, e, "2: E1/w:nfr F1/c:good", "6: E1/w:nfr")
}

// P7.2: the errors of Count, List and Best, in order.
func TestErrorsOfSpellings(t *testing.T) {
	h, free, _ := example(t)
	bad, wrong := h, free
	bad.Period = 2
	wrong.Close = 3
	few := free
	few.Signs = []int{-1, -1, 0, 0, -1, 0, 0, -1}
	for _, x := range []struct {
		what string
		h    api.House
		b    api.Habits
		f    api.Form
		most int
		want api.Errno
	}{
		{"a house that is not valid", bad, wrong, api.Form{Entry: 2}, 0, api.ErrPeriod},
		{"habits that are not valid", h, wrong, api.Form{Entry: 2}, 0, api.ErrHabits},
		{"no entry", h, free, api.Form{Entry: 2}, 0, api.ErrWord},
		{"no ending", h, free, api.Form{Entry: 1, Ending: 0}, 0, api.ErrEnding},
		{"no clitic", h, free, api.Form{Entry: 0, Ending: -1, Clitics: []int{1}}, 0, api.ErrClitic},
		{"none", h, few, nfr, 0, api.ErrArg},
		{"too many", h, few, nfr, 65, api.ErrArg},
		{"no signs", h, few, nfr, 64, api.ErrSpell},
		{"no signs", h, few, nfr, 1, api.ErrSpell},
	} {
		list, e := spell.List(x.h, x.b, x.f, x.most)
		expectError(t, "List with "+x.what, list, e, x.want)
		if x.want == api.ErrArg {
			continue
		}
		best, e := spell.Best(x.h, x.b, x.f)
		expectError(t, "Best with "+x.what, best, e, x.want)
		if x.want == api.ErrSpell {
			x.want = api.OK
		}
		count, e := spell.Count(x.h, x.b, x.f)
		expectError(t, "Count with "+x.what, count, e, x.want)
	}
}

// P0.1: also with the most signs, values and sounds the spellings are found soon.
func TestSoonEnough(t *testing.T) {
	list := ""
	for i := range 200 {
		list += fmt.Sprintf("S%d 1x1", i)
		for n := range 8 {
			list += " s:" + strings.Repeat("a", n+1) + "@1-1"
		}
		list += " w:aaaaaaaa@1-1 c:c@1-1\n"
	}
	h := house(t, list, "word aaaaaaaa 1 c 0\nending 1 aaaa x 0\nclitic aaaa x 0\nclitic aaaa y 0\nclitic aaaa z 0\n", api.Costs{})
	long := api.Form{Entry: 0, Ending: 0, Clitics: []int{0, 1, 2}}
	b := anything(h)
	start := time.Now()
	if _, e := spell.List(h, b, long, 64); e != api.OK {
		t.Errorf("List: %d", e)
	}
	listed := time.Now()
	// There are 5 parts, so no more than 12 of these forms fit in a line.
	if line, _, e := spell.Line(h, b, slices.Repeat([]api.Form{long}, 12)); e != api.OK || len(line) != 60 {
		t.Errorf("Line: %d signs, %d", len(line), e)
	}
	line, _, e := spell.Line(h, b, slices.Repeat([]api.Form{long}, 60))
	expectError(t, "Line of too many signs", line, e, api.ErrMany)
	t.Log(listed.Sub(start), time.Since(listed))
}
