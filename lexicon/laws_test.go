package lexicon_test

import (
	"reflect"
	"slices"
	"testing"

	"ostracon/api"
	"ostracon/lexicon"
)

func format(t *testing.T, x api.Lexicon) string {
	t.Helper()
	s, e := lexicon.Format(x)
	if e != api.OK {
		t.Fatalf("Format(%v): error %d", x, e)
	}
	return s
}

// checkLaws checks P5.14 for a form. It reports whether there are few enough
// forms with its sounds to be listed.
func checkLaws(t *testing.T, x api.Lexicon, f api.Form) bool {
	t.Helper()
	s, e := lexicon.Sounds(x, f)
	weight, e2 := lexicon.Weight(x, f)
	gloss, e3 := lexicon.Gloss(x, f)
	if lexicon.CheckForm(x, f) != api.OK || e != api.OK || e2 != api.OK || e3 != api.OK {
		t.Fatalf("the form %v of %v: %d, %d, %d", f, x, e, e2, e3)
	}
	with, e := lexicon.With(x, s)
	if e != api.ErrMany && (e != api.OK || !slices.ContainsFunc(with, func(g api.Form) bool { return sameForm(f, g) })) {
		t.Fatalf("With(%v, %q) = %v, %d, without %v", x, s, with, e, f)
	}
	least, e2 := lexicon.Least(x, s)
	if lightest, e3 := lexicon.Weight(x, least); e2 != api.OK || e3 != api.OK || lightest > weight {
		t.Fatalf("Least(%v, %q) = %v, %d, and %v weighs %d", x, s, least, e2, f, weight)
	}
	if g, e := lexicon.ParseGloss(x, gloss); e != api.OK || !sameForm(f, g) {
		t.Fatalf("ParseGloss(%v, %q) = %v, %d, want %v", x, gloss, g, e, f)
	}
	if n, e := lexicon.Ways(x, s); e != api.OK || n < 1 {
		t.Fatalf("Ways(%v, %q) = %d, %d", x, s, n, e)
	}
	return e == api.OK
}

// P5.14
func TestLawsOfForms(t *testing.T) {
	d := dice(4)
	for range 100 {
		x := d.roll()
		for entry := range x.Entries {
			forms, e := lexicon.Forms(x, entry)
			if e != api.OK {
				t.Fatalf("Forms(%v, %d): %d", x, entry, e)
			}
			for _, f := range forms {
				checkLaws(t, x, f)
			}
		}
	}
	x := crowd(200, 40, 10)
	if !checkLaws(t, x, form(199, -1)) || checkLaws(t, x, form(0, 0, 0, 1, 2)) {
		t.Errorf("With lists too few forms of the largest lexicon, or too many")
	}
}

// P5.15
func TestLawsOfCuts(t *testing.T) {
	d := dice(5)
	for range 2000 {
		x, s, most := d.roll(), d.speech(30), 1+d.below(64)
		cuts, e := lexicon.Cuts(x, s, most)
		ways, e2 := lexicon.Ways(x, s)
		reach, e3 := lexicon.Reach(x, s)
		if e != api.OK || e2 != api.OK || e3 != api.OK {
			t.Fatalf("Cuts, Ways and Reach of %v, %q: %d, %d, %d", x, s, e, e2, e3)
		}
		if len(cuts) > most || len(cuts) < most && ways != len(cuts) || len(cuts) == most && ways < most {
			t.Fatalf("Cuts(%v, %q, %d) are %d, Ways is %d", x, s, most, len(cuts), ways)
		}
		if (reach == len(s)) != (ways > 0) {
			t.Fatalf("Reach(%v, %q) = %d, Ways is %d", x, s, reach, ways)
		}
		for i, c := range cuts {
			checkCut(t, x, s, c)
			if i > 0 && compareCuts(cuts[i-1], c) >= 0 {
				t.Fatalf("Cuts(%v, %q, %d) do not ascend: %v, %v", x, s, most, cuts[i-1], c)
			}
		}
	}
}

// checkCut checks that the forms of a cut have these sounds, and its weight.
func checkCut(t *testing.T, x api.Lexicon, s string, c lexicon.Cut) {
	t.Helper()
	all, sum := "", 0
	for _, f := range c.Forms {
		sounds, e := lexicon.Sounds(x, f)
		weight, e2 := lexicon.Weight(x, f)
		if e != api.OK || e2 != api.OK {
			t.Fatalf("a cut of %q by %v has the form %v: %d, %d", s, x, f, e, e2)
		}
		all, sum = all+sounds, sum+weight
	}
	if all != s || sum != c.Weight {
		t.Fatalf("a cut of %q by %v is %v", s, x, c)
	}
}

// P5.16
func TestParseOfFormat(t *testing.T) {
	d := dice(6)
	for range 1000 {
		x := d.roll()
		back, line, e := lexicon.Parse(format(t, x))
		if e != api.OK || line != 0 || !lexicon.Same(back, x) {
			t.Fatalf("Parse(Format(%v)) = %v, line %d, %d", x, back, line, e)
		}
	}
	if x := crowd(200, 40, 10); !lexicon.Same(parse(t, format(t, x)), x) {
		t.Errorf("Parse(Format) of the largest lexicon")
	}
}

// P5.13: a text is read only if it is just what Format writes.
func TestFormatOfParse(t *testing.T) {
	const bytes = "01239 \n-/=wordenigclAazZ\x00\xff"
	d := dice(7)
	read := 0
	for range 20000 {
		text := []byte(example)
		for range 1 + d.below(2) {
			at := d.below(len(text))
			switch b := bytes[d.below(len(bytes))]; d.below(3) {
			case 0:
				text[at] = b
			case 1:
				text = slices.Insert(text, at, b)
			default:
				text = slices.Delete(text, at, at+1)
			}
		}
		if x, _, e := lexicon.Parse(string(text)); e == api.OK {
			read++
			if s := format(t, x); s != string(text) {
				t.Fatalf("%q is read as %v, which is written %q", text, x, s)
			}
		}
	}
	if read == 0 {
		t.Errorf("no text was read")
	}
}

// P5.4: a gloss is read only if it is just what Gloss writes.
func TestGlossOfParseGloss(t *testing.T) {
	const bytes = "123nNfemhis/-= \x00"
	d := dice(8)
	x := parse(t, glosses)
	read := 0
	for range 20000 {
		gloss := []byte(d.pick("n/2/fem-fem=his=fem", "n/1", "nn/2-his=hi=is", "n/2=his"))
		at := d.below(len(gloss))
		switch b := bytes[d.below(len(bytes))]; d.below(3) {
		case 0:
			gloss[at] = b
		case 1:
			gloss = slices.Insert(gloss, at, b)
		default:
			gloss = slices.Delete(gloss, at, at+1)
		}
		f, e := lexicon.ParseGloss(x, string(gloss))
		if e != api.OK {
			expectError(t, "ParseGloss", f, e, api.ErrForm)
			continue
		}
		read++
		if s, e := lexicon.Gloss(x, f); s != string(gloss) || e != api.OK {
			t.Fatalf("%q is read as %v, whose gloss is %q, %d", gloss, f, s, e)
		}
	}
	if read == 0 {
		t.Errorf("no gloss was read")
	}
}

// arguments are those of all functions of the package.
type arguments struct {
	x, y         api.Lexicon
	f            api.Form
	number, most int
	text         string
}

// arguments returns arguments that are valid in many cases.
func (d *dice) arguments() arguments {
	a := arguments{d.someLexicon(), d.someLexicon(), d.someForm(), d.number(), d.number(), d.text()}
	if d.below(2) == 0 {
		a.number, a.most, a.text = d.below(3), 1+d.below(64), d.speech(12)
	}
	return a
}

func (a arguments) clone() arguments {
	a.x, a.y, a.f = clone(a.x), clone(a.y), cloneForm(a.f)
	return a
}

// equal reports whether the lists of two arguments are equal.
func (a arguments) equal(b arguments) bool {
	return lexicon.Same(a.x, b.x) && lexicon.Same(a.y, b.y) && sameForm(a.f, b.f)
}

// calls are the results of all functions of the package.
func calls(a arguments) [][]any {
	var all [][]any
	add := func(results ...any) { all = append(all, results) }
	add(lexicon.Check(a.x))
	add(lexicon.CheckForm(a.x, a.f))
	s, e := lexicon.Stem(a.x, a.f)
	add(s, e)
	s, e = lexicon.Sounds(a.x, a.f)
	add(s, e)
	n, e := lexicon.Weight(a.x, a.f)
	add(n, e)
	s, e = lexicon.Gloss(a.x, a.f)
	add(s, e)
	f, e := lexicon.ParseGloss(a.x, a.text)
	add(f, e)
	forms, e := lexicon.Forms(a.x, a.number)
	add(forms, e)
	n, e = lexicon.Count(a.x, a.number)
	add(n, e)
	forms, e = lexicon.With(a.x, a.text)
	add(forms, e)
	f, e = lexicon.Least(a.x, a.text)
	add(f, e)
	cuts, e := lexicon.Cuts(a.x, a.text, a.most)
	add(cuts, e)
	n, e = lexicon.Ways(a.x, a.text)
	add(n, e)
	n, e = lexicon.Reach(a.x, a.text)
	add(n, e)
	add(lexicon.Same(a.x, a.y))
	s, e = lexicon.Format(a.x)
	add(s, e)
	x, line, e := lexicon.Parse(a.text)
	add(x, line, e)
	return all
}

// P0.1 and R4: no argument makes a function panic, the results depend on the
// arguments alone, and no argument is changed.
func TestAnyArguments(t *testing.T) {
	d := dice(9)
	for range 5000 {
		a := d.arguments()
		b := a.clone()
		first := calls(a)
		if !a.equal(b) {
			t.Fatalf("calls with %v change an argument", b)
		}
		if second := calls(b); !reflect.DeepEqual(first, second) {
			t.Fatalf("calls with %v give %v, then %v", a, first, second)
		}
	}
}

// R2: with an error every other result is its zero value, but for the line of Parse.
func TestZeroWithError(t *testing.T) {
	d := dice(10)
	failed := map[int]int{}
	for range 5000 {
		a := d.arguments()
		all := calls(a)
		for i, results := range all {
			last := len(results) - 1
			e, ok := results[last].(api.Errno)
			if !ok || e == api.OK {
				continue
			}
			failed[i]++
			if i == len(all)-1 { // Parse
				results = slices.Delete(results, 1, 2)
				last--
			}
			for _, r := range results[:last] {
				expectError(t, "a call", r, e, e)
			}
		}
	}
	for i, n := range failed {
		if n < 100 {
			t.Errorf("call %d failed only %d times", i, n)
		}
	}
	if len(failed) != 16 { // all but Same
		t.Errorf("%d functions failed", len(failed))
	}
}

// R3: nil lists and empty ones are the same in arguments.
func TestNilAndEmpty(t *testing.T) {
	d := dice(11)
	for range 500 {
		a := d.arguments()
		b := a
		if len(a.x.Entries) == 0 {
			b.x.Entries = []api.Entry{}
		}
		if len(a.x.Endings) == 0 {
			b.x.Endings = []api.Ending{}
		}
		if len(a.x.Clitics) == 0 {
			b.x.Clitics = []api.Clitic{}
		}
		if len(a.f.Clitics) == 0 {
			b.f.Clitics = []int{}
		}
		if first, second := calls(a), calls(b); !reflect.DeepEqual(first, second) {
			t.Fatalf("calls with nil lists %v give %v, with empty ones %v", a, first, second)
		}
	}
}

// expectApart checks that the forms of a result share no memory: what is written
// into one of them, and behind it, changes no other one.
func expectApart(t *testing.T, what string, forms []api.Form) {
	t.Helper()
	var want []api.Form
	for _, f := range forms {
		want = append(want, cloneForm(f))
	}
	for i, f := range forms {
		c := f.Clitics[:cap(f.Clitics)]
		before := slices.Clone(c)
		for j := range c {
			c[j] = -99
		}
		for k, g := range forms {
			if k != i && !sameForm(g, want[k]) {
				t.Fatalf("the forms %d and %d of %s share memory", i, k, what)
			}
		}
		copy(c, before)
	}
}

// R4: the forms of one result share no memory with each other.
func TestSeparateForms(t *testing.T) {
	x := crowd(3, 1, 4)
	forms, _ := lexicon.Forms(x, 0)
	expectApart(t, "Forms", forms)
	with, _ := lexicon.With(x, "aaa")
	expectApart(t, "With", with)
	cuts, _ := lexicon.Cuts(x, "aaaa", 64)
	var all []api.Form
	for _, c := range cuts {
		all = append(all, c.Forms...)
	}
	expectApart(t, "Cuts", all)
	if len(forms) != 30 || len(with) == 0 || len(all) <= 64 {
		t.Errorf("Forms are %d, With are %d, Cuts have %d forms", len(forms), len(with), len(all))
	}
}

// R4: the lists of forms of two cuts share no memory.
func TestSeparateCuts(t *testing.T) {
	x := crowd(2, 1, 1)
	cuts, _ := lexicon.Cuts(x, "aaaa", 64)
	for i := range cuts {
		want, _ := lexicon.Cuts(x, "aaaa", 64)
		all := cuts[i].Forms[:cap(cuts[i].Forms)]
		for j := range all {
			all[j] = form(-99, -99)
		}
		for k := i + 1; k < len(cuts); k++ {
			if !sameCut(cuts[k], want[k]) {
				t.Fatalf("the cuts %d and %d share memory", i, k)
			}
		}
	}
}

const room = 3

// roomy are equal arguments behind whose lists there is memory of somebody else.
func roomy(a arguments) arguments {
	a.x.Entries = append(slices.Clip(a.x.Entries), make([]api.Entry, room)...)[:len(a.x.Entries)]
	a.x.Endings = append(slices.Clip(a.x.Endings), make([]api.Ending, room)...)[:len(a.x.Endings)]
	a.x.Clitics = append(slices.Clip(a.x.Clitics), make([]api.Clitic, room)...)[:len(a.x.Clitics)]
	a.f.Clitics = append(slices.Clip(a.f.Clitics), make([]int, room)...)[:len(a.f.Clitics)]
	return a
}

// untouched reports whether nobody has written behind a list.
func untouched[T comparable](list []T) bool {
	behind := list[len(list) : len(list)+room]
	return slices.Equal(behind, make([]T, room))
}

// R4: nothing behind the lists of an argument is changed.
func TestMemoryBehindLists(t *testing.T) {
	d := dice(12)
	for range 500 {
		a := roomy(d.arguments())
		calls(a)
		if !untouched(a.x.Entries) || !untouched(a.x.Endings) || !untouched(a.x.Clitics) || !untouched(a.f.Clitics) {
			t.Fatalf("calls with %v write behind a list", a)
		}
	}
}
