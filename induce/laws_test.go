package induce_test

import (
	"reflect"
	"slices"
	"testing"

	"ostracon/api"
	"ostracon/induce"
	"ostracon/read"
	"ostracon/signs"
)

// corpora goes through rolled houses and corpora that are readable with all
// entries.
func corpora(seed dice, most int) func(yield func(api.House, [][]int) bool) {
	return func(yield func(api.House, [][]int) bool) {
		for n := 0; n < most; {
			h := seed.roll()
			corpus := seed.lines(h, 5)
			if len(corpus) == 0 || !allReadable(h, corpus, upTo(len(h.Lexicon.Entries))) {
				continue
			}
			n++
			if !yield(h, corpus) {
				return
			}
		}
	}
}

func entriesOf(l []api.Needed) []int {
	var all []int
	for _, n := range l {
		all = append(all, n.Entry)
	}
	return all
}

// P10.5 and P0.6: Check accepts what Induce returns; each entry is needed by the
// lines that it names, and by no others.
func TestEveryEntryIsNeeded(t *testing.T) {
	entries := 0
	for h, corpus := range corpora(10, 1200) {
		list, e := induce.Induce(h, corpus)
		if e != api.OK || induce.Check(h, corpus, list) != api.OK {
			t.Fatalf("Induce in %v of %v = %v, %d; Check: %d", h, corpus, list, e, induce.Check(h, corpus, list))
		}
		keep := entriesOf(list)
		if !allReadable(h, corpus, keep) {
			t.Fatalf("in %v %v is not readable with %v", h, corpus, keep)
		}
		for _, n := range list {
			entries++
			for i, line := range corpus {
				if without := readable(h, line, except(keep, n.Entry)); without == slices.Contains(n.Lines, i) {
					t.Fatalf("Induce in %v of %v = %v, but without %d line %d is readable: %v", h, corpus, list, n.Entry, i, without)
				}
			}
			if len(n.Lines) == 0 {
				t.Fatalf("Induce in %v of %v = %v with an entry that no line needs", h, corpus, list)
			}
		}
	}
	if entries < 1000 {
		t.Errorf("only %d entries were needed", entries)
	}
}

// P10.6
func TestNoneIsSmaller(t *testing.T) {
	fewer := 0
	for h, corpus := range corpora(11, 2500) {
		small, e := induce.Smallest(h, corpus)
		list, e2 := induce.Induce(h, corpus)
		if e != api.OK || e2 != api.OK || len(list) < len(small) {
			t.Fatalf("in %v of %v Smallest = %v, %d, Induce = %v, %d", h, corpus, small, e, list, e2)
		}
		for _, keep := range append(choices(len(h.Lexicon.Entries)), entriesOf(list)) {
			if len(keep) < len(small) && allReadable(h, corpus, keep) {
				t.Fatalf("Smallest in %v of %v = %v, but %v is smaller", h, corpus, small, keep)
			}
		}
		if !allReadable(h, corpus, small) {
			t.Fatalf("in %v %v is not readable with %v", h, corpus, small)
		}
		if len(small) < len(list) {
			fewer++
		}
	}
	if fewer < 20 {
		t.Errorf("Smallest had fewer entries than Induce %d times", fewer)
	}
}

// P10.7
func TestMoreEntriesReadMore(t *testing.T) {
	d := dice(12)
	more := 0
	for range 1500 {
		h := d.roll()
		corpus, keep := d.lines(h, 5), d.choice(h)
		part := slices.DeleteFunc(slices.Clone(keep), func(int) bool { return d.below(3) == 0 })
		with, e := induce.Readable(h, corpus, keep)
		without, e2 := induce.Readable(h, corpus, part)
		if e != api.OK || e2 != api.OK || len(with) != len(corpus) || len(without) != len(corpus) {
			t.Fatalf("Readable = %v, %d, %v, %d", with, e, without, e2)
		}
		for i := range corpus {
			if without[i] && !with[i] {
				t.Fatalf("in %v %v is readable with %v, and not with %v", h, corpus[i], part, keep)
			}
			if with[i] && !without[i] {
				more++
			}
		}
	}
	if more < 200 {
		t.Errorf("only %d lines were readable with more entries alone", more)
	}
}

// P10.8
func TestDictionaryIsInducedToItself(t *testing.T) {
	for h, corpus := range corpora(13, 600) {
		x, list, e := induce.Dictionary(h, corpus)
		expect(t, "Dictionary", len(x.Entries), e, len(list))
		h.Lexicon = x
		again, e := induce.Induce(h, corpus)
		expect(t, "Induce of a dictionary", again, e, list)
		y, again, e := induce.Dictionary(h, corpus)
		expect(t, "Dictionary of a dictionary", y, e, x)
		expect(t, "Dictionary of a dictionary", again, e, list)
		expectError(t, "Check of a dictionary", 0, induce.Check(h, corpus, list), api.OK)
	}
}

// P10.9
func TestProposedAreRead(t *testing.T) {
	d := dice(14)
	stretches := 0
	for range 500 {
		h := d.roll()
		var corpus [][]int
		for range d.below(4) {
			corpus = append(corpus, d.line(h.List, 8))
		}
		all, e := induce.Propose(h.List, h.Period, corpus)
		if e == api.ErrMany {
			continue
		}
		for _, p := range proposalsOf(h.List, h.Period, corpus) {
			if !slices.Contains(all, p.entry) {
				t.Fatalf("Propose in %v of %v = %v, %d, without %v", h.List, corpus, all, e, p.entry)
			}
			h.Lexicon = api.Lexicon{Entries: []api.Entry{p.entry}}
			w := api.Spelled{Form: api.Form{Ending: -1}, Uses: p.uses}
			words, e := read.Forest(h, p.signs)
			if e != api.OK || !slices.ContainsFunc(words, func(d api.Edge) bool { return d.From == 0 && same(d.Word, w) }) {
				t.Fatalf("Forest in %v of %v = %v, %d, without %v", h, p.signs, words, e, w)
			}
			got, e := induce.Readable(h, [][]int{p.signs}, []int{0})
			expect(t, "Readable", got, e, []bool{true})
			stretches++
		}
	}
	if stretches < 1000 {
		t.Errorf("only %d stretches were read", stretches)
	}
}

// P10.10
func TestPlacesOfNeeded(t *testing.T) {
	for h, corpus := range corpora(15, 600) {
		list, e := induce.Induce(h, corpus)
		if e != api.OK {
			t.Fatalf("Induce: %d", e)
		}
		for _, n := range list {
			places, e := induce.Places(h, corpus, entriesOf(list), n.Entry)
			if e != api.OK {
				t.Fatalf("Places: %d", e)
			}
			for _, i := range n.Lines {
				if !slices.ContainsFunc(places, func(p induce.Place) bool { return p.Line == i }) {
					t.Fatalf("Places in %v of %v, %v, %d = %v, without line %d", h, corpus, list, n.Entry, places, i)
				}
			}
		}
	}
}

// arguments are those of all functions of the package. Its fields are exported so
// that they can be looked through.
type arguments struct {
	House         api.House
	Corpus        [][]int
	Keep          []int
	Entry, Period int
	Needed        []api.Needed
}

// number returns a number that often is out of some bounds.
func (d *dice) number() int {
	all := []int{-1, 0, 1, 2, 3, 1 << 62, -1 << 62, 40, 200, 5}
	return all[d.below(len(all))]
}

// numbers returns numbers that need not be valid for anything.
func (d *dice) numbers() []int {
	var all []int
	for range d.below(4) {
		all = append(all, d.number())
	}
	return all
}

// text returns a text that often is none of anything.
func (d *dice) text() string {
	return d.pick("", "a", "ab", "A", "1", "\xff", "abcdefghi", "k", " ", "S0")
}

// wild returns a house that need not be valid in any way.
func (d *dice) wild() api.House {
	h := api.House{Period: d.number(), List: api.List{Periods: d.number()}}
	h.Costs = api.Costs{Spell: d.number(), Stand: d.number(), Open: d.number()}
	for range d.below(3) {
		s := api.Sign{Code: d.text(), Wide: d.number(), High: d.number()}
		for range d.below(3) {
			s.Values = append(s.Values, api.Value{Kind: d.number(), Text: d.text(), From: d.number(), To: d.number()})
		}
		h.List.Signs = append(h.List.Signs, s)
		h.Lexicon.Entries = append(h.Lexicon.Entries, api.Entry{Root: d.text(), Kind: d.number(), Class: d.text(), Weight: d.number()})
		h.Lexicon.Endings = append(h.Lexicon.Endings, api.Ending{Kind: d.number(), Text: d.text(), Name: d.text(), Weight: d.number()})
		h.Lexicon.Clitics = append(h.Lexicon.Clitics, api.Clitic{Text: d.text(), Name: d.text(), Weight: d.number()})
	}
	return h
}

// arguments returns arguments that are valid in many cases.
func (d *dice) arguments() arguments {
	h := d.roll()
	a := arguments{House: h, Corpus: d.lines(h, 4), Keep: d.choice(h), Period: h.Period}
	if d.below(3) == 0 {
		a.Keep = upTo(len(h.Lexicon.Entries))
	}
	a.Entry = d.below(len(h.Lexicon.Entries))
	if allReadable(h, a.Corpus, a.Keep) {
		a.Needed = thinned(h, a.Corpus)
	}
	d.upset(&a)
	return a
}

// upset makes arguments not valid in some cases.
func (d *dice) upset(a *arguments) {
	switch d.below(12) {
	case 0:
		a.House = d.wild()
	case 1:
		a.House.Costs.Close, a.Period = d.number(), d.number()
	case 2:
		a.Corpus = append(a.Corpus, d.numbers())
	case 3:
		a.Corpus = slices.Repeat([][]int{d.numbers()}, 35+d.below(10))
	case 4:
		a.Corpus = append(a.Corpus, slices.Repeat([]int{0}, 55+d.below(10)))
	case 5:
		a.Keep = d.numbers()
	case 6:
		a.Entry = d.number()
	case 7:
		a.Needed = append(a.Needed, need(d.number(), d.numbers()...))
	case 8:
		a.Needed = slices.Repeat(append(a.Needed, need(0)), 150)
	case 9:
		a.House.List.Signs = append(slices.Clip(a.House.List.Signs), api.Sign{Code: d.text(), Wide: 1, High: 1})
	}
}

// calls are the results of all functions of the package.
func calls(a arguments) [][]any {
	var all [][]any
	add := func(results ...any) { all = append(all, results) }
	h, e := induce.Only(a.House, a.Keep)
	add(h, e)
	ok, e := induce.Readable(a.House, a.Corpus, a.Keep)
	add(ok, e)
	lines, e := induce.Needs(a.House, a.Corpus, a.Keep, a.Entry)
	add(lines, e)
	list, e := induce.Induce(a.House, a.Corpus)
	add(list, e)
	keep, e := induce.Smallest(a.House, a.Corpus)
	add(keep, e)
	add(induce.Check(a.House, a.Corpus, a.Needed))
	places, e := induce.Places(a.House, a.Corpus, a.Keep, a.Entry)
	add(places, e)
	entries, e := induce.Propose(a.House.List, a.Period, a.Corpus)
	add(entries, e)
	x, list, e := induce.Dictionary(a.House, a.Corpus)
	add(x, list, e)
	text, e := induce.Report(a.House, a.Needed)
	add(text, e)
	return all
}

// remade returns an equal value whose lists are new and not nil, with room for
// some more elements behind each.
func remade[T any](x T, room int) T {
	return remadeValue(reflect.ValueOf(&x).Elem(), room).Interface().(T)
}

func remadeValue(x reflect.Value, room int) reflect.Value {
	switch x.Kind() {
	case reflect.Interface:
		return remadeValue(x.Elem(), room)
	case reflect.Slice:
		list := reflect.MakeSlice(x.Type(), x.Len(), x.Len()+room)
		for i := range x.Len() {
			list.Index(i).Set(remadeValue(x.Index(i), room))
		}
		return list
	case reflect.Struct:
		made := reflect.New(x.Type()).Elem()
		for i := range x.NumField() {
			made.Field(i).Set(remadeValue(x.Field(i), room))
		}
		return made
	}
	return x
}

// lists returns all lists in a value, those in other lists before these.
func lists(x reflect.Value) []reflect.Value {
	var all []reflect.Value
	switch x.Kind() {
	case reflect.Interface:
		return lists(x.Elem())
	case reflect.Slice:
		for i := range x.Len() {
			all = append(all, lists(x.Index(i))...)
		}
		return append(all, x)
	case reflect.Struct:
		for i := range x.NumField() {
			all = append(all, lists(x.Field(i))...)
		}
	}
	return all
}

// touched reports whether somebody has written behind a list of a value.
func touched(x any) bool {
	return slices.ContainsFunc(lists(reflect.ValueOf(x)), func(list reflect.Value) bool {
		whole := list.Slice(0, list.Cap())
		for i := list.Len(); i < whole.Len(); i++ {
			if !whole.Index(i).IsZero() {
				return true
			}
		}
		return false
	})
}

// scrawl overwrites the numbers and texts of a list, and what is behind it.
func scrawl(list reflect.Value) {
	whole := list.Slice(0, list.Cap())
	for i := range whole.Len() {
		scrawlValue(whole.Index(i))
	}
}

func scrawlValue(x reflect.Value) {
	switch x.Kind() {
	case reflect.Int:
		x.SetInt(-99)
	case reflect.String:
		x.SetString("scrawl")
	case reflect.Bool:
		x.SetBool(!x.Bool())
	case reflect.Struct:
		for i := range x.NumField() {
			scrawlValue(x.Field(i))
		}
	}
}

// P0.1 and R4: no argument makes a function panic, the results depend on the
// arguments alone, and no argument is changed.
func TestAnyArguments(t *testing.T) {
	d := dice(20)
	for range 800 {
		a := d.arguments()
		b := remade(a, 0)
		first := calls(a)
		if !same(a, b) {
			t.Fatalf("calls with %v change an argument", b)
		}
		if second := calls(a); !reflect.DeepEqual(first, second) {
			t.Fatalf("calls with %v give %v, then %v", a, first, second)
		}
	}
}

// R2: with an error every other result is its zero value.
func TestZeroWithError(t *testing.T) {
	d := dice(21)
	failed := map[int]int{}
	for range 1200 {
		for i, results := range calls(d.arguments()) {
			last := len(results) - 1
			if results[last] == api.OK {
				continue
			}
			failed[i]++
			for _, r := range results[:last] {
				if !same(r, reflect.Zero(reflect.TypeOf(r)).Interface()) {
					t.Fatalf("call %d gives %v", i, results)
				}
			}
		}
	}
	for i := range 10 {
		if failed[i] < 50 {
			t.Errorf("call %d failed only %d times", i, failed[i])
		}
	}
}

// R3 and R4: nil lists and empty ones are the same in arguments, and nothing
// behind a list is changed.
func TestNilAndEmpty(t *testing.T) {
	d := dice(22)
	for range 500 {
		a := d.arguments()
		switch d.below(4) {
		case 0:
			a.Corpus, a.House.Lexicon.Endings = nil, nil
		case 1:
			a.Keep, a.House.Lexicon.Clitics = nil, nil
		case 2:
			a.Needed, a.House.Lexicon.Entries = nil, nil
		case 3:
			a.Corpus, a.House.List.Signs = make([][]int, 2), nil
		}
		first := calls(a)
		for _, room := range []int{0, 3} {
			b := remade(a, room)
			second := calls(b)
			for i := range first {
				if !same(first[i], second[i]) {
					t.Fatalf("call %d with nil lists %v gives %v, with empty ones %v", i, a, first[i], second[i])
				}
			}
			if touched(b) {
				t.Fatalf("calls with %v write behind a list", a)
			}
		}
	}
}

// R4: what is written into a part of a result changes no argument and no other
// part.
func TestResultsAreNew(t *testing.T) {
	d := dice(23)
	for range 500 {
		a := d.arguments()
		b := remade(a, 0)
		for i, results := range calls(a) {
			parts := lists(reflect.ValueOf(results))
			parts = parts[:len(parts)-1] // the list of the results is the test's own
			var want []any
			for _, part := range parts {
				want = append(want, remadeValue(part, 0).Interface())
			}
			for p, part := range parts {
				// A list whose elements have lists comes behind these.
				if part.Type().Elem().Comparable() && !same(part.Interface(), want[p]) {
					t.Fatalf("the list %d of call %d shares memory with one before it", p, i)
				}
				scrawl(part)
			}
		}
		if !same(a, b) {
			t.Fatalf("a result of the calls with %v is part of an argument", b)
		}
	}
}

// P0.3 and R6: the results do not depend on values of other periods, nor on the
// order of the values of a sign.
func TestOtherPeriods(t *testing.T) {
	d := dice(24)
	for range 500 {
		a := d.arguments()
		if read.CheckHouse(a.House) != api.OK || a.Period != a.House.Period {
			continue
		}
		b := remade(a, 0)
		l, e := signs.Restrict(b.House.List, b.Period)
		if e != api.OK {
			t.Fatalf("Restrict: %d", e)
		}
		for _, s := range l.Signs {
			slices.Reverse(s.Values)
		}
		b.House.List, b.House.Period, b.Period = l, 1, 1
		first, second := calls(a), calls(b)
		for i := range first[1:] { // Only returns the list itself
			if !same(first[1+i], second[1+i]) {
				t.Fatalf("call %d with %v gives %v, in one period %v", 1+i, a, first[1+i], second[1+i])
			}
		}
	}
}
