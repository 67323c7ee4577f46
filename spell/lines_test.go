package spell_test

import (
	"reflect"
	"slices"
	"testing"

	"ostracon/api"
	"ostracon/lexicon"
	"ostracon/read"
	"ostracon/spell"
)

func expectLine(t *testing.T, what string, got []int, e api.Errno, want []int) {
	t.Helper()
	if e != api.OK || !slices.Equal(got, want) {
		t.Errorf("%s = %v, %d, want %v", what, got, e, want)
	}
}

// P7.3
func TestLine(t *testing.T) {
	h, free, strict := example(t)
	his := api.Form{Entry: 0, Ending: 0, Clitics: []int{0}}
	for _, x := range []struct {
		b     api.Habits
		forms []api.Form
		want  string
		cost  int
	}{
		{free, []api.Form{nfr, n}, "E1 F1 H1", 3},
		{free, []api.Form{n, nfr, n}, "H1 E1 F1 H1", 4},
		{strict, []api.Form{nfr, n}, "A1 C1 D1 F1 H1 A1", 6},
		{free, []api.Form{his}, "E1 G1 F1 C1", 8},
		{free, nil, "", 0},
	} {
		got, cost, e := spell.Line(h, x.b, x.forms)
		expectLine(t, "Line", got, e, line(t, h, x.want))
		if cost != x.cost {
			t.Errorf("Line of %v costs %d, want %d", x.forms, cost, x.cost)
		}
	}
}

func expectNoLine(t *testing.T, what string, h api.House, b api.Habits, forms []api.Form, want api.Errno) {
	t.Helper()
	got, cost, e := spell.Line(h, b, forms)
	expectError(t, "Line with "+what, got, e, want)
	expectError(t, "the cost of Line with "+what, cost, e, want)
}

// P7.3: the errors of Line, in order.
func TestErrorsOfLine(t *testing.T) {
	h, free, _ := example(t)
	bad, wrong, few := h, free, free
	bad.Period = 2
	wrong.Repeat = -1
	few.Signs = []int{0, 0, 0, 0, 0, 0, -1, 0}
	none, silent := api.Form{Entry: -1}, api.Form{Entry: 0, Ending: 0} // the ending t has no sign
	expectNoLine(t, "a house that is not valid", bad, wrong, make([]api.Form, 61), api.ErrPeriod)
	expectNoLine(t, "habits that are not valid", h, wrong, make([]api.Form, 61), api.ErrHabits)
	expectNoLine(t, "61 forms", h, few, slices.Repeat([]api.Form{none}, 61), api.ErrMany)
	expectNoLine(t, "no word", h, few, []api.Form{nfr, none, silent}, api.ErrWord)
	expectNoLine(t, "no spelling", h, few, []api.Form{nfr, silent, none}, api.ErrSpell)
	expectNoLine(t, "no spelling behind too many signs", h, few, append(slices.Repeat([]api.Form{nfr}, 59), silent), api.ErrSpell)
	expectNoLine(t, "no word behind too many signs", h, few, append(slices.Repeat([]api.Form{nfr}, 59), none), api.ErrWord)
	// nfr has two signs, n has one.
	expectNoLine(t, "61 signs", h, free, append(slices.Repeat([]api.Form{nfr}, 30), n), api.ErrMany)
	got, cost, e := spell.Line(h, free, slices.Repeat([]api.Form{nfr}, 30))
	expectLine(t, "Line of 60 signs", got, e, slices.Repeat([]int{4, 5}, 30))
	if cost != 60 {
		t.Errorf("Line of 60 signs costs %d", cost)
	}
	got, cost, e = spell.Line(h, free, slices.Repeat([]api.Form{n}, 60))
	expectLine(t, "Line of 60 forms", got, e, slices.Repeat([]int{7}, 60))
	if cost != 60 {
		t.Errorf("Line of 60 forms costs %d", cost)
	}
}

// P7.3: Line has the first spellings of the forms.
func TestLineAsTold(t *testing.T) {
	d := dice(4)
	written := 0
	for range 2000 {
		h := d.roll()
		b := d.habits(h)
		var forms []api.Form
		var want []int
		costs, wanted := 0, api.OK
		for range d.below(6) {
			f := d.form(h)
			forms = append(forms, f)
			best, e := spell.Best(h, b, f)
			if wanted == api.OK {
				wanted = e
			}
			want = append(want, best.Signs...)
			costs += best.Cost
		}
		got, cost, e := spell.Line(h, b, forms)
		if wanted != api.OK {
			expectError(t, "Line", got, e, wanted)
			continue
		}
		written++
		expectLine(t, "Line", got, e, want)
		if cost != costs {
			t.Fatalf("Line in %v with %v of %v costs %d, want %d", h, b, forms, cost, costs)
		}
	}
	if written < 300 {
		t.Errorf("only %d lines were written", written)
	}
}

// P7.3
func TestRespell(t *testing.T) {
	h, free, strict := example(t)
	got, e := spell.Respell(h, free, line(t, h, "B1 D1 F1"))
	expectLine(t, "Respell with P", got, e, line(t, h, "E1 F1"))
	got, e = spell.Respell(h, strict, line(t, h, "E1 H1 E1 F1 C1"))
	expectLine(t, "Respell with Q", got, e, line(t, h, "A1 C1 D1 F1 H1 A1 A1 C1 D1 F1 C1"))
	got, e = spell.Respell(h, strict, nil)
	expectLine(t, "Respell of nothing", got, e, nil)
}

// P7.3: the errors of Respell, in order.
func TestErrorsOfRespell(t *testing.T) {
	h, free, strict := example(t)
	bad, wrong, few := h, free, free
	bad.Period = 2
	wrong.Close = 3
	few.Signs = []int{0, 0, 0, 0, 0, 0, -1, 0}
	for _, x := range []struct {
		what string
		h    api.House
		b    api.Habits
		line []int
		want api.Errno
	}{
		{"a house that is not valid", bad, wrong, make([]int, 61), api.ErrPeriod},
		{"habits that are not valid", h, wrong, make([]int, 61), api.ErrHabits},
		{"61 signs", h, few, make([]int, 61), api.ErrMany},
		{"no sign", h, few, []int{8}, api.ErrSign},
		{"no reading", h, few, line(t, h, "B1 G1 D1"), api.ErrReading},
		{"a word that cannot be written", h, few, line(t, h, "B1 G1"), api.ErrSpell},
		{"too many signs", h, strict, slices.Repeat(line(t, h, "E1"), 16), api.ErrMany},
	} {
		got, e := spell.Respell(x.h, x.b, x.line)
		expectError(t, "Respell with "+x.what, got, e, x.want)
	}
	got, e := spell.Respell(h, strict, slices.Repeat(line(t, h, "E1"), 15))
	expectLine(t, "Respell to 60 signs", got, e, slices.Repeat(line(t, h, "A1 C1 D1 F1"), 15))
}

// crowd is a house in which too many words are spelled by a line.
func crowd(t *testing.T) api.House {
	return house(t, "A 1x1 s:a@1-1 w:a@1-1 c:c@1-1\n", "word a 1 c 0\nword aa 1 c 0\nword aaa 1 c 0\nclitic a x 0\nclitic a y 0\nclitic a z 0\nclitic aa u 0\n", api.Costs{})
}

// P7.3 and P7.4: too many words in a line.
func TestTooManyWords(t *testing.T) {
	h := crowd(t)
	l := make([]int, 60)
	if _, e := read.Best(h, l); e != api.ErrMany {
		t.Fatalf("Best: %d", e)
	}
	got, e := spell.Respell(h, anything(h), l)
	expectError(t, "Respell", got, e, api.ErrMany)
	r, e := spell.Writes(h, anything(h), l)
	expectError(t, "Writes", r, e, api.ErrMany)
	b, e := spell.Learn(h, [][]int{nil, l})
	expectError(t, "Learn", b, e, api.ErrMany)
}

// P7.3: Respell is Line of the forms of the best reading.
func TestRespellAsTold(t *testing.T) {
	d := dice(5)
	written := 0
	for range 2000 {
		h := d.roll()
		b := d.habits(h)
		l := d.line(h, 5)
		got, e := spell.Respell(h, b, l)
		best, e2 := read.Best(h, l)
		if e2 != api.OK {
			expectError(t, "Respell", got, e, e2)
			continue
		}
		want, _, e2 := spell.Line(h, b, formsOf(best.Words))
		if e != e2 || !slices.Equal(got, want) {
			t.Fatalf("Respell in %v with %v of %v = %v, %d, want %v, %d", h, b, l, got, e, want, e2)
		}
		written += len(got)
	}
	if written < 500 {
		t.Errorf("only %d signs were written", written)
	}
}

func formsOf(words []api.Spelled) []api.Form {
	var forms []api.Form
	for _, w := range words {
		forms = append(forms, w.Form)
	}
	return forms
}

func expectForms(t *testing.T, what string, got []api.Form, e api.Errno, want ...api.Form) {
	t.Helper()
	if e != api.OK || !slices.EqualFunc(got, want, sameForm) {
		t.Errorf("%s = %v, %d, want %v", what, got, e, want)
	}
}

// P7.4
func TestForms(t *testing.T) {
	h, _, _ := example(t)
	for codes, want := range map[string][]api.Form{
		"B1 C1":    {{Entry: 0, Ending: -1, Clitics: []int{0}}},
		"H1":       {n}, // by Spells and by Stands
		"H1 A1":    {n},
		"A1 H1":    nil,
		"B1":       {nfr},
		"E1 G1":    {{Entry: 0, Ending: 0}},
		"B1 D1 F1": {nfr},
		"D1":       nil,
		"":         nil,
	} {
		got, e := spell.Forms(h, line(t, h, codes))
		expectForms(t, "Forms of "+codes, got, e, want...)
	}
	bad := h
	bad.Period = 2
	got, e := spell.Forms(bad, make([]int, 61))
	expectError(t, "Forms with a house that is not valid", got, e, api.ErrPeriod)
	got, e = spell.Forms(h, slices.Repeat([]int{8}, 61))
	expectError(t, "Forms of 61 signs", got, e, api.ErrMany)
	got, e = spell.Forms(h, []int{1, 8})
	expectError(t, "Forms of no sign", got, e, api.ErrSign)
	got, e = spell.Forms(h, make([]int, 60))
	expectForms(t, "Forms of 60 signs", got, e)
}

// P7.4: the forms are ordered, and there are none of more than 12 signs.
func TestOrderOfForms(t *testing.T) {
	h := house(t, "A 1x1 s:a@1-1 w:a@1-1\n", "word aa 1 - 0\nword a 1 - 0\nword aaaaaaaa 1 - 0\nending 1 aaaa x 0\nending 1 a y 0\nclitic a x 0\nclitic a y 0\nclitic aaa z 0\n", api.Costs{})
	got, e := spell.Forms(h, make([]int, 4))
	expectForms(t, "Forms", got, e,
		api.Form{Entry: 0, Ending: -1, Clitics: []int{0, 1}},
		api.Form{Entry: 0, Ending: 1, Clitics: []int{0}}, api.Form{Entry: 0, Ending: 1, Clitics: []int{1}},
		// The first sign can stand for a, and the second one repeat it.
		api.Form{Entry: 1, Ending: -1, Clitics: []int{0, 1}}, api.Form{Entry: 1, Ending: -1, Clitics: []int{2}},
		api.Form{Entry: 1, Ending: 1, Clitics: []int{0}}, api.Form{Entry: 1, Ending: 1, Clitics: []int{0, 1}}, api.Form{Entry: 1, Ending: 1, Clitics: []int{1}})
	got, e = spell.Forms(h, make([]int, 12))
	expectForms(t, "Forms of 12 signs", got, e, api.Form{Entry: 2, Ending: -1, Clitics: []int{0, 2}}, api.Form{Entry: 2, Ending: -1, Clitics: []int{1, 2}},
		api.Form{Entry: 2, Ending: 0}, api.Form{Entry: 2, Ending: 1, Clitics: []int{2}})
	got, e = spell.Forms(h, make([]int, 13))
	expectForms(t, "Forms of 13 signs", got, e)
}

// P7.4: Forms has the error of read.Words.
func TestTooManyForms(t *testing.T) {
	h := crowd(t)
	for kind := range 9 {
		for class := range 20 {
			h.Lexicon.Entries = append(h.Lexicon.Entries, api.Entry{Root: "a", Kind: 1 + kind, Class: string([]byte{byte('e' + class)})})
		}
	}
	l := make([]int, 60)
	_, e := read.Words(h, l, 0)
	got, e2 := spell.Forms(h, l)
	expectError(t, "Forms", got, e2, e)
	if e != api.ErrMany {
		t.Errorf("Words: %d", e)
	}
}

// P7.4: Forms are those with which read.Price accepts some uses of the signs.
func TestFormsAsTold(t *testing.T) {
	d := dice(6)
	found := 0
	for range 600 {
		h := d.roll()
		l := d.line(h, 4)
		var want []api.Form
		for entry := range h.Lexicon.Entries {
			all, e := lexicon.Forms(h.Lexicon, entry)
			if e != api.OK {
				t.Fatalf("Forms: %d", e)
			}
			for _, f := range all {
				if spells(h, l, api.Spelled{Form: f}) {
					want = append(want, f)
				}
			}
		}
		found += len(want)
		got, e := spell.Forms(h, l)
		if e != api.OK || !slices.EqualFunc(got, want, sameForm) {
			t.Fatalf("Forms in %v of %v = %v, %d, want %v", h, l, got, e, want)
		}
	}
	if found < 200 {
		t.Errorf("only %d forms were found", found)
	}
}

// spells reports whether signs spell a word with the form and the first uses of one.
func spells(h api.House, line []int, w api.Spelled) bool {
	if len(w.Uses) == len(line) {
		_, e := read.Price(h, line, w)
		return e == api.OK
	}
	for _, u := range usesOf(h, line[len(w.Uses)]) {
		if spells(h, line, api.Spelled{Form: w.Form, Uses: append(slices.Clip(w.Uses), u)}) {
			return true
		}
	}
	return false
}

// P7.4
func TestWrites(t *testing.T) {
	h, free, strict := example(t)
	got, e := spell.Writes(h, strict, line(t, h, "B1 D1 F1"))
	best, _ := read.Best(h, line(t, h, "B1 D1 F1"))
	if e != api.OK || got.Cost != 3 || !reflect.DeepEqual(got, best) {
		t.Errorf("Writes = %v, %d, want %v", got, e, best)
	}
	got, e = spell.Writes(h, strict, line(t, h, "B1 F1"))
	expectError(t, "Writes of what does not keep the habits", got, e, api.ErrReading)
	got, e = spell.Writes(h, free, line(t, h, "B1 C1 D1"))
	expectError(t, "Writes of what has no reading", got, e, api.ErrReading)
	got, e = spell.Writes(h, strict, nil)
	if e != api.OK || got.Cost != 0 || len(got.Words) != 0 {
		t.Errorf("Writes of nothing = %v, %d", got, e)
	}
	// H1 A1 is n by Stands and Repeats at first, but two words by Spells if nothing
	// is repeated, and if all is they are one again.
	for habit, cost := range []int{api.Never: 3, api.May: 1, api.Always: 1} {
		b := free
		b.Repeat = habit
		got, e := spell.Writes(h, b, line(t, h, "H1 A1"))
		if e != api.OK || got.Cost != cost {
			t.Errorf("Writes with Repeat %d = %v, %d, want the cost %d", habit, got, e, cost)
		}
	}
	// The numbers of the signs do not matter, but for -1.
	b := free
	b.Signs = []int{1000, 1000, 1000, 1000, 1000, 1000, 1000, 1000}
	got, e = spell.Writes(h, b, line(t, h, "H1 A1"))
	if e != api.OK || got.Cost != 1 {
		t.Errorf("Writes with great numbers = %v, %d", got, e)
	}
	b.Signs[0] = -1
	got, e = spell.Writes(h, b, line(t, h, "H1 A1"))
	expectError(t, "Writes of a sign that is not used", got, e, api.ErrReading)
}

// P7.4: the errors of Writes, in order.
func TestErrorsOfWrites(t *testing.T) {
	h, free, _ := example(t)
	bad, wrong := h, free
	bad.Period = 2
	wrong.Close = 3
	got, e := spell.Writes(bad, wrong, make([]int, 61))
	expectError(t, "Writes with a house that is not valid", got, e, api.ErrPeriod)
	got, e = spell.Writes(h, wrong, make([]int, 61))
	expectError(t, "Writes with habits that are not valid", got, e, api.ErrHabits)
	got, e = spell.Writes(h, free, slices.Repeat([]int{8}, 61))
	expectError(t, "Writes of 61 signs", got, e, api.ErrMany)
	got, e = spell.Writes(h, free, []int{1, 8})
	expectError(t, "Writes of no sign", got, e, api.ErrSign)
	got, e = spell.Writes(h, free, []int{0, -1})
	expectError(t, "Writes of no sign", got, e, api.ErrSign)
}

// P7.4: Writes is the first of all readings that keep the habits.
func TestWritesAsTold(t *testing.T) {
	d := dice(7)
	none, other := 0, 0
	for range 4000 {
		h := d.roll()
		b := d.habits(h)
		l := d.line(h, 6)
		want := readingsOf(h, b, l)
		got, e := spell.Writes(h, b, l)
		if len(want) == 0 {
			none++
			expectError(t, "Writes", got, e, api.ErrReading)
			continue
		}
		first := slices.MinFunc(want, compareReadings)
		if e != api.OK || got.Cost != first.Cost || compareReadings(got, first) != 0 {
			t.Fatalf("Writes in %v with %v of %v = %v, %d, want %v", h, b, l, got, e, first)
		}
		if best, _ := read.Best(h, l); compareReadings(got, best) != 0 {
			other++
		}
	}
	if none < 500 || none > 3500 || other < 50 {
		t.Errorf("%d lines have no such reading, %d have one that is not the best", none, other)
	}
}
