package spell_test

import (
	"reflect"
	"slices"
	"strings"
	"testing"

	"ostracon/api"
	"ostracon/read"
	"ostracon/spell"
)

// P7.6: a spelling is read as its word.
func TestSpellingsAreRead(t *testing.T) {
	d := dice(11)
	listed := 0
	for range 600 {
		h := d.roll()
		b, f := d.habits(h), d.form(h)
		list, e := spell.List(h, b, f, 64)
		if e == api.ErrSpell {
			continue
		}
		for _, s := range list {
			listed++
			w := api.Spelled{Form: f, Uses: s.Uses}
			if _, e := read.Price(h, s.Signs, w); e != api.OK {
				t.Fatalf("read.Price in %v of %s as %v = %d", h, showSpelling(h, s), f, e)
			}
			if cost, e := spell.Price(h, b, s.Signs, w); cost != s.Cost || e != api.OK {
				t.Fatalf("Price in %v with %v of %s as %v = %d, %d", h, b, showSpelling(h, s), f, cost, e)
			}
			forms, e := spell.Forms(h, s.Signs)
			if e != api.OK || !slices.ContainsFunc(forms, func(g api.Form) bool { return sameForm(f, g) }) {
				t.Fatalf("Forms in %v of %s = %v, %d, without %v", h, showSpelling(h, s), forms, e, f)
			}
		}
	}
	if listed < 2000 {
		t.Errorf("only %d spellings were listed", listed)
	}
}

// P7.7: what Price accepts is listed, or comes behind all that are listed; what
// is listed is different, and in order.
func TestAcceptedAreListed(t *testing.T) {
	d := dice(12)
	accepted, behind := 0, 0
	for range 3000 {
		h := d.roll()
		b, most := d.habits(h), 1+d.below(20)
		l := d.line(h, 6)
		words, e := read.Words(h, l, 0)
		if e != api.OK {
			t.Fatalf("Words: %d", e)
		}
		for _, w := range words {
			cost, e := spell.Price(h, b, l[:w.To], w.Word)
			if e != api.OK {
				continue
			}
			accepted++
			list, e := spell.List(h, b, w.Word.Form, most)
			if e != api.OK || !slices.IsSortedFunc(list, compareSpellings) || len(slices.CompactFunc(slices.Clone(list), sameSpelling)) < len(list) {
				t.Fatalf("List in %v with %v of %v = %q, %d", h, b, w.Word.Form, showSpellings(h, list), e)
			}
			found := api.Spelling{Signs: l[:w.To], Uses: w.Word.Uses, Cost: cost}
			at, ok := slices.BinarySearchFunc(list, found, compareSpellings)
			if !ok && (at < len(list) || len(list) < most) {
				t.Fatalf("List in %v with %v of %v, %d = %q, without %s", h, b, w.Word.Form, most, showSpellings(h, list), showSpelling(h, found))
			}
			if !ok {
				behind++
			}
		}
	}
	if accepted < 1500 || behind < 100 {
		t.Errorf("%d were accepted, %d of them not listed", accepted, behind)
	}
}

// expectRead checks that a line can be read as forms by words that keep habits.
func expectRead(t *testing.T, h api.House, b api.Habits, l []int, forms []api.Form) {
	t.Helper()
	var words []api.Spelled
	for _, f := range forms {
		best, e := spell.Best(h, b, f)
		if e != api.OK {
			t.Fatalf("Best in %v with %v of %v: %d", h, b, f, e)
		}
		w := api.Spelled{Form: f, Uses: best.Uses}
		if !keep(h, b, best.Signs, w) {
			t.Fatalf("Best in %v of %v = %v, which does not keep %v", h, f, best, b)
		}
		words = append(words, w)
	}
	if _, at, e := read.Valid(h, l, words); e != api.OK {
		t.Fatalf("Valid in %v of %v as %v = %d, %d", h, l, words, at, e)
	}
	if r, e := spell.Writes(h, b, l); e != api.OK && e != api.ErrMany {
		t.Fatalf("Writes in %v with %v of %v = %v, %d", h, b, l, r, e)
	}
}

// P7.8 and P0.4: a line that is written can be read as the words that were written.
func TestLinesAreRead(t *testing.T) {
	d := dice(13)
	written := 0
	for range 1500 {
		h := d.roll()
		b := d.habits(h)
		var forms []api.Form
		for range d.below(5) {
			forms = append(forms, d.form(h))
		}
		l, _, e := spell.Line(h, b, forms)
		if e != api.OK {
			continue
		}
		written++
		expectRead(t, h, b, l, forms)
	}
	if written < 400 {
		t.Errorf("only %d lines were written", written)
	}
}

// P7.9: what Respell writes can be read as the best reading was.
func TestRespelledIsRead(t *testing.T) {
	d := dice(14)
	written := 0
	for range 1500 {
		h := d.roll()
		b := d.habits(h)
		l := d.line(h, 5)
		got, e := spell.Respell(h, b, l)
		if e != api.OK {
			continue
		}
		written++
		best, e := read.Best(h, l)
		if e != api.OK {
			t.Fatalf("Best: %d", e)
		}
		expectRead(t, h, b, got, formsOf(best.Words))
	}
	if written < 300 {
		t.Errorf("only %d lines were written", written)
	}
}

// P7.10: the words of the first readings keep what was learned from them.
func TestLearnedIsKept(t *testing.T) {
	d := dice(15)
	words := 0
	for range 1500 {
		h := d.roll()
		lines := d.readable(h, 3)
		b, e := spell.Learn(h, lines)
		if e != api.OK || spell.CheckHabits(h, b) != api.OK {
			t.Fatalf("Learn in %v of %v = %v, %d", h, lines, b, e)
		}
		for _, l := range lines {
			best, e := read.Best(h, l)
			if e != api.OK {
				t.Fatalf("Best: %d", e)
			}
			for _, w := range best.Words {
				words++
				if _, e := spell.Price(h, b, l[:len(w.Uses)], w); e != api.OK {
					t.Fatalf("Price in %v with %v of %v as %v = %d", h, b, l, w, e)
				}
				l = l[len(w.Uses):]
			}
			if _, _, e := spell.Line(h, b, formsOf(best.Words)); e != api.OK {
				t.Fatalf("Line in %v with %v of %v = %d", h, b, best, e)
			}
		}
	}
	if words < 1000 {
		t.Errorf("only %d words were read", words)
	}
}

// P7.11: Common keeps both, and no more than both.
func TestCommonKeepsBoth(t *testing.T) {
	d := dice(16)
	var counts [2]int
	for range 3000 {
		h := d.roll()
		a, b := d.habits(h), d.habits(h)
		l := d.line(h, 5)
		both, e := spell.Common(h, a, b)
		if exclude := a.Repeat+b.Repeat == 2 && a.Repeat != 1 || a.Close+b.Close == 2 && a.Close != 1; exclude != (e == api.ErrHabits) {
			t.Fatalf("Common in %v of %v and %v = %v, %d", h, a, b, both, e)
		}
		if e != api.OK {
			continue
		}
		words, e := read.Words(h, l, 0)
		if e != api.OK {
			t.Fatalf("Words: %d", e)
		}
		for _, w := range words {
			signs := l[:w.To]
			_, first := spell.Price(h, a, signs, w.Word)
			_, second := spell.Price(h, b, signs, w.Word)
			_, e := spell.Price(h, both, signs, w.Word)
			if (e == api.OK) != (first == api.OK && second == api.OK) {
				t.Fatalf("Price in %v of %v as %v with %v = %d, with %v %d, with %v %d", h, signs, w.Word, a, first, b, second, both, e)
			}
			counts[min(1, int(e))]++
		}
	}
	if counts[0] < 500 || counts[1] < 500 {
		t.Errorf("%d words kept both, %d did not", counts[0], counts[1])
	}
}

// P7.11: what keeps habits keeps freer ones.
func TestFreerHabits(t *testing.T) {
	d := dice(17)
	for range 1000 {
		h := d.roll()
		b, f := d.habits(h), d.form(h)
		list, e := spell.List(h, b, f, 64)
		if e != api.OK {
			continue
		}
		freer := api.Habits{Signs: slices.Clone(b.Signs), Repeat: b.Repeat, Close: b.Close}
		for i := range freer.Signs {
			if freer.Signs[i] == -1 && d.below(2) == 0 {
				freer.Signs[i] = d.below(3)
			}
		}
		if d.below(2) == 0 {
			freer.Repeat = api.May
		}
		if d.below(2) == 0 {
			freer.Close = api.May
		}
		for _, s := range list {
			if cost, e := spell.Price(h, freer, s.Signs, api.Spelled{Form: f, Uses: s.Uses}); cost != s.Cost || e != api.OK {
				t.Fatalf("Price in %v with %v of %s = %d, %d, with %v it is not", h, freer, showSpelling(h, s), cost, e, b)
			}
		}
		few, e := spell.Count(h, b, f)
		more, e2 := spell.Count(h, freer, f)
		if e != api.OK || e2 != api.OK || few > more {
			t.Fatalf("Count in %v of %v with %v = %d, %d, with %v %d, %d", h, f, b, few, e, freer, more, e2)
		}
	}
}

// arguments are those of all functions of the package.
type arguments struct {
	h      api.House
	a, b   api.Habits
	line   []int
	lines  [][]int
	most   int
	word   api.Spelled
	forms  []api.Form
	length int // of the signs of the word
}

func cloneForm(f api.Form) api.Form {
	f.Clitics = slices.Clone(f.Clitics)
	return f
}

func (a arguments) clone() arguments {
	return a.by(func(list []int) []int { return slices.Clone(list) })
}

// by returns equal arguments whose lists of numbers are made by a function, and
// whose other lists are new.
func (a arguments) by(list func([]int) []int) arguments {
	signs := slices.Clone(a.h.List.Signs)
	for i := range signs {
		signs[i].Values = slices.Clone(signs[i].Values)
	}
	a.h.List.Signs = signs
	a.h.Lexicon = api.Lexicon{Entries: slices.Clone(a.h.Lexicon.Entries), Endings: slices.Clone(a.h.Lexicon.Endings), Clitics: slices.Clone(a.h.Lexicon.Clitics)}
	a.a.Signs, a.b.Signs, a.line = list(a.a.Signs), list(a.b.Signs), list(a.line)
	a.lines = slices.Clone(a.lines)
	for i := range a.lines {
		a.lines[i] = list(a.lines[i])
	}
	a.word.Form.Clitics, a.word.Uses = list(a.word.Form.Clitics), slices.Clone(a.word.Uses)
	a.forms = slices.Clone(a.forms)
	for i := range a.forms {
		a.forms[i].Clitics = list(a.forms[i].Clitics)
	}
	return a
}

// number returns a number that often is out of some bounds.
func (d *dice) number() int {
	numbers := []int{0, 1, 2, 3, 4, 9, 12, 40, 60, 61, 64, 65, 1000, 1001, -1, -2, -1 << 63, 1<<63 - 1}
	return numbers[d.below(len(numbers))]
}

// text returns a text that often is none of anything.
func (d *dice) text() string {
	return d.pick("", "a", "ab", "b", "c", "d", "A", "\x00", "\xff\xfe", "é", "a b", strings.Repeat("a", 8), strings.Repeat("a", 9), strings.Repeat("a", 1000))
}

// wild returns a house that need not be valid in any way.
func (d *dice) wild() api.House {
	h := d.roll()
	switch d.below(6) {
	case 0:
		h.List.Periods, h.Period = d.number(), d.number()
	case 1:
		h.List.Signs = append(h.List.Signs, api.Sign{Code: d.text(), Wide: d.number(), High: 1, Values: []api.Value{{Kind: d.number(), Text: d.text(), From: d.number(), To: d.number()}}})
	case 2:
		h.Lexicon.Entries = append(h.Lexicon.Entries, api.Entry{Root: d.text(), Kind: d.number(), Class: d.text(), Weight: d.number()})
	case 3:
		h.Lexicon.Endings = append(h.Lexicon.Endings, api.Ending{Kind: d.number(), Text: d.text(), Name: d.text(), Weight: d.number()})
	case 4:
		h.Lexicon.Clitics = append(h.Lexicon.Clitics, api.Clitic{Text: d.text(), Name: d.text(), Weight: d.number()})
	default:
		h.Costs = api.Costs{Spell: d.number(), Stand: d.number(), Repeat: d.number(), Close: d.number(), Open: d.number()}
	}
	return h
}

// wildHabits returns habits that need not be valid.
func (d *dice) wildHabits(h api.House) api.Habits {
	b := d.habits(h)
	switch d.below(5) {
	case 0:
		b.Signs = append(b.Signs, d.number())
	case 1:
		b.Signs = nil
	case 2:
		b.Signs[0] = d.number()
	case 3:
		b.Repeat = d.number()
	default:
		b.Close = d.number()
	}
	return b
}

// wildForm returns a form that need not be one of any lexicon.
func (d *dice) wildForm() api.Form {
	f := api.Form{Entry: d.number(), Ending: d.number()}
	for range d.below(4) {
		f.Clitics = append(f.Clitics, d.number())
	}
	return f
}

// arguments returns arguments that are valid in many cases.
func (d *dice) arguments() arguments {
	h := d.roll()
	a := arguments{h: h, a: d.habits(h), b: d.habits(h), line: d.line(h, 6), lines: d.readable(h, 4), most: 1 + d.below(64)}
	for range 1 + d.below(4) {
		a.forms = append(a.forms, d.form(h))
	}
	a.word = api.Spelled{Form: a.forms[0]}
	if list, e := spell.List(h, a.b, a.forms[0], a.most); e == api.OK {
		a.line, a.word.Uses = list[len(list)-1].Signs, list[len(list)-1].Uses
	}
	a.length = len(a.line)
	switch d.below(20) {
	case 0:
		a.h = d.wild()
	case 1:
		a.a = d.wildHabits(h)
	case 2:
		a.b = d.wildHabits(h)
	case 3:
		a.forms = append(a.forms, d.wildForm())
		slices.Reverse(a.forms)
		a.word.Form = a.forms[0]
	case 4:
		a.line = append(slices.Clone(a.line), d.number())
	case 5:
		a.most, a.length = d.number(), max(0, a.length-1)
	case 6:
		a.line = slices.Repeat(a.line, 20)
		a.forms = slices.Repeat(a.forms, 30)
		a.lines = slices.Repeat(a.lines, 30)
	case 7:
		a.word.Uses = append(slices.Clone(a.word.Uses), api.Use{Kind: d.number(), Text: d.text()})
	case 8:
		a.lines = append(a.lines, []int{d.number()}, d.line(h, 4))
	}
	return a
}

// calls are the results of all functions of the package.
func calls(a arguments) [][]any {
	var all [][]any
	add := func(results ...any) { all = append(all, results) }
	add(spell.CheckHabits(a.h, a.b))
	n, e := spell.Price(a.h, a.b, a.line[:min(a.length, len(a.line))], a.word)
	add(n, e)
	n, e = spell.Count(a.h, a.b, a.forms[0])
	add(n, e)
	list, e := spell.List(a.h, a.b, a.forms[0], a.most)
	add(list, e)
	best, e := spell.Best(a.h, a.b, a.forms[0])
	add(best, e)
	line, cost, e := spell.Line(a.h, a.b, a.forms)
	add(line, cost, e)
	forms, e := spell.Forms(a.h, a.line)
	add(forms, e)
	r, e := spell.Writes(a.h, a.b, a.line)
	add(r, e)
	line, e = spell.Respell(a.h, a.b, a.line)
	add(line, e)
	b, e := spell.Learn(a.h, a.lines)
	add(b, e)
	b, e = spell.Common(a.h, a.a, a.b)
	add(b, e)
	return all
}

// P0.1 and R4: no argument makes a function panic, the results depend on the
// arguments alone, and no argument is changed.
func TestAnyArguments(t *testing.T) {
	d := dice(20)
	for range 1500 {
		a := d.arguments()
		b := a.clone()
		first := calls(a)
		if !reflect.DeepEqual(a, b) {
			t.Fatalf("calls with %v change an argument", b)
		}
		if second := calls(b); !reflect.DeepEqual(first, second) {
			t.Fatalf("calls with %v give %v, then %v", a, first, second)
		}
	}
}

// R2: with an error every other result is its zero value.
func TestZeroWithError(t *testing.T) {
	d := dice(21)
	failed := map[int]int{}
	for range 1500 {
		for i, results := range calls(d.arguments()) {
			last := len(results) - 1
			e, ok := results[last].(api.Errno)
			if !ok || e == api.OK {
				continue
			}
			failed[i]++
			for _, r := range results[:last] {
				expectError(t, "a call", r, e, e)
			}
		}
	}
	for i := range 11 {
		if failed[i] < 50 {
			t.Errorf("call %d failed only %d times", i, failed[i])
		}
	}
}

// R3: nil lists and empty ones are the same in arguments.
func TestNilAndEmpty(t *testing.T) {
	d := dice(22)
	for range 500 {
		a := d.arguments()
		switch d.below(4) {
		case 0:
			a.h.List.Signs, a.a.Signs, a.b.Signs, a.line, a.length = nil, nil, nil, nil, 0
		case 1:
			a.h.Lexicon.Clitics, a.h.Lexicon.Endings = nil, nil
		case 2:
			a.lines = append(a.lines, nil)
			a.word.Uses, a.word.Form.Clitics = nil, nil
		}
		b := a.by(func(list []int) []int { return append([]int{}, list...) })
		b.h.List.Signs = append([]api.Sign{}, a.h.List.Signs...)
		b.h.Lexicon.Endings = append([]api.Ending{}, a.h.Lexicon.Endings...)
		b.h.Lexicon.Clitics = append([]api.Clitic{}, a.h.Lexicon.Clitics...)
		b.word.Uses = append([]api.Use{}, a.word.Uses...)
		if first, second := calls(a), calls(b); !reflect.DeepEqual(first, second) {
			t.Fatalf("calls with nil lists %v give %v, with empty ones %v", a, first, second)
		}
	}
}

// scrawl overwrites all memory of a list, and of what is behind it.
func scrawl(list []int) {
	for i := range list[:cap(list)] {
		list[:cap(list)][i] = -99
	}
}

func scrawlUses(list []api.Use) {
	for i := range list[:cap(list)] {
		list[:cap(list)][i] = api.Use{Kind: -99, Text: "scrawl"}
	}
}

// R4: the parts of a result share no memory with each other.
func TestApart(t *testing.T) {
	h := house(t, "A 1x1 s:a@1-1 w:a@1-1\nB 1x1 s:b@1-1 s:a@1-1\n", "word a 1 - 0\nword ab 1 - 0\nclitic a x 0\nclitic a y 0\nclitic b z 0\n", api.Costs{})
	list, e := spell.List(h, anything(h), api.Form{Entry: 1, Ending: -1, Clitics: []int{0, 1}}, 64)
	if e != api.OK || len(list) != 8 {
		t.Fatalf("List are %d, %d", len(list), e)
	}
	texts := showSpellings(h, list)
	for i, s := range list {
		if got := showSpelling(h, s); got != texts[i] {
			t.Fatalf("the spelling %d shares memory with one before it: %s, %s", i, got, texts[i])
		}
		scrawl(s.Signs)
		scrawlUses(s.Uses)
	}
	forms, e := spell.Forms(h, []int{0, 1, 1})
	if e != api.OK || len(forms) < 4 {
		t.Fatalf("Forms = %v, %d", forms, e)
	}
	want := slices.Clone(forms)
	for i := range want {
		want[i] = cloneForm(want[i])
	}
	for i, f := range forms {
		if !sameForm(f, want[i]) {
			t.Fatalf("the form %d shares memory with one before it", i)
		}
		scrawl(f.Clitics)
	}
	r, e := spell.Writes(h, anything(h), []int{0, 1, 0, 0, 1, 0, 1, 1, 0})
	if e != api.OK || len(r.Words) < 3 {
		t.Fatalf("Writes = %v, %d", r, e)
	}
	words := slices.Clone(r.Words)
	for i := range words {
		words[i] = api.Spelled{Form: cloneForm(words[i].Form), Uses: slices.Clone(words[i].Uses)}
	}
	for i, w := range r.Words {
		if !sameForm(w.Form, words[i].Form) || !slices.Equal(w.Uses, words[i].Uses) {
			t.Fatalf("the word %d shares memory with one before it", i)
		}
		scrawl(w.Form.Clitics)
		scrawlUses(w.Uses)
	}
}

// R4: a later call does not see what was written into a result, and no argument
// is part of one.
func TestNothingKept(t *testing.T) {
	h, free, strict := example(t)
	for range 2 {
		best, e := spell.Best(h, free, nfr)
		expectSpellings(t, "Best", h, []api.Spelling{best}, e, "2: E1/w:nfr F1/c:good")
		scrawl(best.Signs)
		scrawlUses(best.Uses)
		both, e := spell.Common(h, free, strict)
		expectHabits(t, "Common", both, e, strict)
		scrawl(both.Signs)
		learned, e := spell.Learn(h, [][]int{{1}})
		expectHabits(t, "Learn", learned, e, api.Habits{Signs: []int{-1, 0, -1, -1, -1, -1, -1, -1}})
		scrawl(learned.Signs)
		l := line(t, h, "E1 F1")
		got, e := spell.Respell(h, free, l)
		expectLine(t, "Respell", got, e, l)
		scrawl(got)
		expectLine(t, "the argument of Respell", l, e, line(t, h, "E1 F1"))
		got, _, e = spell.Line(h, free, []api.Form{nfr})
		expectLine(t, "Line", got, e, l)
		scrawl(got)
	}
}

const room = 3

// roomy is an equal list behind which there is memory of somebody else.
func roomy(list []int) []int {
	return append(slices.Clip(list), make([]int, room)...)[:len(list)]
}

// touched reports whether somebody has written behind a list.
func touched(list []int) bool {
	return slices.ContainsFunc(list[len(list):len(list)+room], func(n int) bool { return n != 0 })
}

// R4: nothing behind the lists of an argument is changed.
func TestMemoryBehindLists(t *testing.T) {
	d := dice(23)
	for range 300 {
		a := d.arguments().by(roomy)
		uses := append(slices.Clone(a.word.Uses), api.Use{})
		forms := append(slices.Clone(a.forms), api.Form{})
		lines := append(slices.Clone(a.lines), nil)
		a.word.Uses, a.forms, a.lines = uses[:len(uses)-1], forms[:len(forms)-1], lines[:len(lines)-1]
		calls(a)
		if uses[len(uses)-1].Kind != 0 || !reflect.DeepEqual(forms[len(forms)-1], api.Form{}) || lines[len(lines)-1] != nil {
			t.Fatalf("calls with %v write behind a list", a)
		}
		all := [][]int{a.line, a.a.Signs, a.b.Signs, a.word.Form.Clitics}
		all = append(all, a.lines...)
		for _, f := range a.forms {
			all = append(all, f.Clitics)
		}
		if slices.ContainsFunc(all, touched) {
			t.Fatalf("calls with %v write behind a list of numbers", a)
		}
	}
}

// P0.3 and R6: spellings do not depend on values of other periods, nor on the
// order of the values of a sign.
func TestOtherPeriods(t *testing.T) {
	d := dice(24)
	for range 500 {
		a := d.arguments()
		if read.CheckHouse(a.h) != api.OK {
			continue
		}
		b := a.clone()
		b.h.List.Periods, b.h.Period = 1, 1
		for i := range b.h.List.Signs {
			s := &b.h.List.Signs[i]
			s.Values = slices.DeleteFunc(s.Values, func(v api.Value) bool { return v.From > a.h.Period || v.To < a.h.Period })
			for j := range s.Values {
				s.Values[j].From, s.Values[j].To = 1, 1
			}
			slices.Reverse(s.Values)
		}
		if first, second := calls(a), calls(b); !reflect.DeepEqual(first, second) {
			t.Fatalf("calls with %v give %v, in one period %v", a, first, second)
		}
	}
}
