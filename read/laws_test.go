package read_test

import (
	"reflect"
	"slices"
	"strconv"
	"strings"
	"testing"

	"ostracon/api"
	"ostracon/lexicon"
	"ostracon/read"
	"ostracon/signs"
)

// P6.6: what is listed is valid, different, and in order.
func TestListedAreValid(t *testing.T) {
	d := dice(11)
	listed := 0
	for range 3000 {
		h := d.roll(2)
		l := d.line(h.List, 12)
		list, e := read.List(h, l, 1+d.below(64))
		if e == api.ErrMany || e == api.ErrReading {
			continue
		}
		listed++
		for i, r := range list {
			if cost, at, e := read.Valid(h, l, r.Words); cost != r.Cost || at != 0 || e != api.OK {
				t.Fatalf("Valid in %v of %v as %s = %d, %d, %d", h, l, showReading(r), cost, at, e)
			}
			if i > 0 && compareReadings(list[i-1], r) >= 0 {
				t.Fatalf("List in %v of %v: %s, then %s", h, l, showReading(list[i-1]), showReading(r))
			}
		}
	}
	if listed < 500 {
		t.Errorf("only %d lines were listed", listed)
	}
}

// P6.7: what Valid accepts is listed, or comes behind all that are listed.
func TestValidAreListed(t *testing.T) {
	d := dice(12)
	accepted, behind := 0, 0
	for range 2000 {
		h := d.roll(3)
		l := d.line(h.List, 6)
		most := 1 + d.below(20)
		list, e := read.List(h, l, most)
		if e == api.ErrMany {
			continue
		}
		for range 20 {
			r := d.reading(h, l)
			cost, _, e := read.Valid(h, l, r)
			if e != api.OK {
				continue
			}
			accepted++
			found := api.Reading{Words: r, Cost: cost}
			at, ok := slices.BinarySearchFunc(list, found, compareReadings)
			if !ok && (at < len(list) || len(list) < most) {
				t.Fatalf("List in %v of %v, %d = %v, without %s", h, l, most, list, showReading(found))
			}
			if !ok {
				behind++
			}
		}
	}
	if accepted < 2000 || behind < 100 {
		t.Errorf("%d were accepted, %d of them not listed", accepted, behind)
	}
}

// reading divides a line into words that need not be any.
func (d *dice) reading(h api.House, l []int) []api.Spelled {
	forms := formsBySounds(h.Lexicon)
	var all []api.Spelled
	for at := 0; at < len(l); {
		n := 1 + d.below(min(3, len(l)-at))
		w := api.Spelled{Form: form("0")}
		for _, sign := range l[at : at+n] {
			if uses := usesOf(h, sign); len(uses) > 0 {
				w.Uses = append(w.Uses, uses[d.below(len(uses))])
			}
		}
		if found := forms[saidBy(w.Uses)]; len(found) > 0 {
			w.Form = found[d.below(len(found))]
		}
		all = append(all, w)
		at += n
	}
	return all
}

// P6.8: the forest is what Words returns between places that can be reached and
// places from which the end can be reached; Certain are those without which
// there is no way.
func TestForestOfWords(t *testing.T) {
	d := dice(13)
	certain := 0
	for range 2000 {
		h := d.roll(3)
		l := d.line(h.List, 12)
		forest, e := read.Forest(h, l)
		if e == api.ErrMany {
			continue
		}
		if want := forestOf(t, h, l); e != api.OK || !slices.EqualFunc(forest, want, sameEdge) {
			t.Fatalf("Forest in %v of %v = %v, %d, want %v", h, l, forest, e, want)
		}
		if len(forest) == 0 && len(l) > 0 {
			continue
		}
		got, e := read.Certain(h, l)
		want := slices.Clone(forest)
		want = slices.DeleteFunc(want, func(without api.Edge) bool { return leads(forest, without, 0, len(l)) })
		if e != api.OK || !slices.EqualFunc(got, want, sameEdge) {
			t.Fatalf("Certain in %v of %v = %v, %d, want %v", h, l, got, e, want)
		}
		certain += len(got)
	}
	if certain < 200 {
		t.Errorf("only %d edges are certain", certain)
	}
}

// forestOf are the edges of Words, place by place, that are in a reading.
func forestOf(t *testing.T, h api.House, l []int) []api.Edge {
	t.Helper()
	table, e := read.Prove(h, l)
	if e != api.OK {
		t.Fatalf("Prove: %d", e)
	}
	var all []api.Edge
	reached := make([]bool, len(l)+1)
	reached[0] = true
	for at := range reached {
		edges, e := read.Words(h, l, at)
		if e != api.OK {
			t.Fatalf("Words: %d", e)
		}
		for _, d := range edges {
			reached[d.To] = reached[d.To] || reached[at]
			if reached[at] && table[d.To] >= 0 {
				all = append(all, d)
			}
		}
	}
	return all
}

// leads reports whether edges but one lead from a place to another.
func leads(edges []api.Edge, without api.Edge, from, to int) bool {
	if from == to {
		return true
	}
	seen := make([]bool, to+1)
	seen[from] = true
	for _, d := range edges {
		if seen[d.From] && !sameEdge(d, without) {
			seen[d.To] = true
		}
	}
	return seen[to]
}

// P6.8: a reading has edges of the forest.
func TestReadingInForest(t *testing.T) {
	d := dice(14)
	for range 500 {
		h := d.roll(3)
		l := d.line(h.List, 8)
		forest, e := read.Forest(h, l)
		list, e2 := read.List(h, l, 64)
		if e != api.OK || e2 != api.OK {
			continue
		}
		for _, r := range list {
			for _, d := range edgesIn(h, r) {
				if !slices.ContainsFunc(forest, func(f api.Edge) bool { return sameEdge(d, f) }) {
					t.Fatalf("Forest in %v of %v has not %s", h, l, showEdge(d))
				}
			}
		}
	}
}

// P6.9: the table of Prove proves the cost of Best, and nothing greater; a table
// that is accepted proves something true.
func TestCertificate(t *testing.T) {
	d := dice(15)
	accepted := 0
	for range 1000 {
		h := d.roll(2)
		l := d.line(h.List, 8)
		table, e := read.Prove(h, l)
		if e == api.ErrMany {
			continue
		}
		best, e2 := read.Best(h, l)
		for _, cost := range []int{best.Cost - 1, best.Cost, best.Cost + 1} {
			if ok, e3 := read.Proves(h, l, table, cost); e != api.OK || e3 != api.OK || ok != (e2 == api.ErrReading || cost <= best.Cost) {
				t.Fatalf("Proves in %v of %v, %v, %d = %v, %d; Best is %v, %d", h, l, table, cost, ok, e3, best, e2)
			}
		}
		for range 20 {
			other := slices.Clone(table)
			for range 1 + d.below(3) {
				other[d.below(len(other))] += d.below(5) - 2
			}
			cost := d.below(6)
			ok, e := read.Proves(h, l, other, cost)
			if e != api.OK || ok && e2 == api.OK && best.Cost < cost {
				t.Fatalf("Proves in %v of %v, %v, %d = %v, %d; Best is %v", h, l, other, cost, ok, e, best)
			}
			if want := proves(t, h, l, other, cost); ok != want {
				t.Fatalf("Proves in %v of %v, %v, %d = %v, want %v", h, l, other, cost, ok, want)
			}
			if ok {
				accepted++
			}
		}
	}
	if accepted < 300 {
		t.Errorf("only %d other tables were accepted", accepted)
	}
}

// proves says again when a table of small numbers proves a cost.
func proves(t *testing.T, h api.House, l []int, table []int, cost int) bool {
	t.Helper()
	if slices.Min(table) < -1 || table[len(l)] != 0 || table[0] != -1 && table[0] < cost {
		return false
	}
	for at, x := range table {
		edges, e := read.Words(h, l, at)
		if e != api.OK {
			t.Fatalf("Words: %d", e)
		}
		for _, d := range edges {
			if y := table[d.To]; y != -1 && (x == -1 || x > d.Cost+y) {
				return false
			}
		}
	}
	return true
}

// P6.10: readings of two lines are a reading of both together.
func TestLinesTogether(t *testing.T) {
	d := dice(16)
	read2 := 0
	for range 3000 {
		h := d.roll(3)
		l, m := d.line(h.List, 5), d.line(h.List, 5)
		a, e := read.Best(h, l)
		b, e2 := read.Best(h, m)
		both, e3 := read.Best(h, slices.Concat(l, m))
		if e != api.OK || e2 != api.OK || e3 == api.ErrMany {
			continue
		}
		read2++
		if e3 != api.OK || both.Cost > a.Cost+b.Cost {
			t.Fatalf("Best in %v of %v and %v are %v and %v, of both together it is %v, %d", h, l, m, a, b, both, e3)
		}
		if cost, _, e := read.Valid(h, slices.Concat(l, m), slices.Concat(a.Words, b.Words)); cost != a.Cost+b.Cost || e != api.OK {
			t.Fatalf("Valid in %v of %v and %v together = %d, %d", h, l, m, cost, e)
		}
	}
	if read2 < 500 {
		t.Errorf("only %d pairs of lines were read", read2)
	}
}

// P6.11: with more values, entries, endings and clitics, readings stay readings.
func TestMoreOfAll(t *testing.T) {
	d := dice(17)
	stayed := 0
	for range 3000 {
		h := d.roll(3)
		l := d.line(h.List, 5)
		list, e := read.List(h, l, 64)
		if e != api.OK {
			continue
		}
		more := clone(h)
		more.Lexicon.Entries = append(more.Lexicon.Entries, api.Entry{Root: "baba", Kind: 1, Class: "c"}, api.Entry{Root: "a", Kind: 9})
		more.Lexicon.Endings = append(more.Lexicon.Endings, api.Ending{Kind: 1, Text: "a", Name: "more"}, api.Ending{Kind: 2, Text: "b", Name: "more"})
		more.Lexicon.Clitics = append(more.Lexicon.Clitics, api.Clitic{Text: "a", Name: "more"})
		for i := range more.List.Signs {
			s := &more.List.Signs[i]
			s.Values = append(s.Values, api.Value{Kind: api.Sound, Text: "bab", From: 1, To: 1}, api.Value{Kind: api.Word, Text: "baba", From: 1, To: h.List.Periods})
		}
		if e := read.CheckHouse(more); e != api.OK {
			t.Fatalf("CheckHouse of %v = %d", more, e)
		}
		for _, r := range list {
			stayed++
			if cost, _, e := read.Valid(more, l, r.Words); cost != r.Cost || e != api.OK {
				t.Fatalf("Valid in %v of %v as %s = %d, %d", more, l, showReading(r), cost, e)
			}
		}
		if best, e := read.Best(more, l); e != api.ErrMany && (e != api.OK || best.Cost > list[0].Cost) {
			t.Fatalf("Best in %v of %v = %v, %d, and in %v it was %v", more, l, best, e, h, list[0])
		}
	}
	if stayed < 1000 {
		t.Errorf("only %d readings stayed", stayed)
	}
}

// P6.12: Reach of a line is at least that of a beginning of it.
func TestReachOfBeginnings(t *testing.T) {
	d := dice(18)
	for range 1000 {
		h := d.roll(3)
		l := d.line(h.List, 8)
		last := 0
		for n := range len(l) + 1 {
			reach, e := read.Reach(h, l[:n])
			if e == api.ErrMany {
				break
			}
			if e != api.OK || reach < last || reach > n {
				t.Fatalf("Reach in %v of %v = %d, %d, and %d before", h, l[:n], reach, e, last)
			}
			_, e = read.Best(h, l[:n])
			if (reach == n) != (e == api.OK) {
				t.Fatalf("Reach in %v of %v = %d, Best: %d", h, l[:n], reach, e)
			}
			last = reach
		}
	}
}

// P0.3: a reading does not depend on how signs are numbered, nor on other periods.
func TestNumbersAndPeriods(t *testing.T) {
	d := dice(19)
	for range 1000 {
		h := d.roll(3)
		l := d.line(h.List, 6)
		other := clone(h)
		other.List.Periods, other.Period = 1, 1
		for i := range other.List.Signs {
			values, e := signs.Values(h.List, i, h.Period)
			if e != api.OK {
				t.Fatalf("Values: %d", e)
			}
			for j := range values {
				values[j].From, values[j].To = 1, 1
			}
			slices.Reverse(values)
			other.List.Signs[i].Values = values
			other.List.Signs[i].Code = "R" + strconv.Itoa(i)
			other.List.Signs[i].Wide = 12
		}
		slices.Reverse(other.List.Signs)
		m := slices.Clone(l)
		for i := range m {
			m[i] = len(h.List.Signs) - 1 - m[i]
		}
		a, b := arguments{h: h, line: l, most: 64, table: []int{0}}, arguments{h: other, line: m, most: 64, table: []int{0}}
		if first, second := calls(a)[3:], calls(b)[3:]; !reflect.DeepEqual(first, second) {
			t.Fatalf("calls with %v give %v, with %v %v", a, first, b, second)
		}
	}
}

func cloneForm(f api.Form) api.Form {
	f.Clitics = slices.Clone(f.Clitics)
	return f
}

func clone(h api.House) api.House {
	h.List.Signs = slices.Clone(h.List.Signs)
	for i := range h.List.Signs {
		h.List.Signs[i].Values = slices.Clone(h.List.Signs[i].Values)
	}
	h.Lexicon.Entries = slices.Clone(h.Lexicon.Entries)
	h.Lexicon.Endings = slices.Clone(h.Lexicon.Endings)
	h.Lexicon.Clitics = slices.Clone(h.Lexicon.Clitics)
	return h
}

func cloneWords(words []api.Spelled) []api.Spelled {
	words = slices.Clone(words)
	for i, w := range words {
		words[i] = api.Spelled{Form: cloneForm(w.Form), Uses: slices.Clone(w.Uses)}
	}
	return words
}

// arguments are those of all functions of the package.
type arguments struct {
	h              api.House
	line           []int
	sign, at, most int
	table          []int
	cost           int
	words          []api.Spelled
}

func (a arguments) clone() arguments {
	a.h, a.line, a.table, a.words = clone(a.h), slices.Clone(a.line), slices.Clone(a.table), cloneWords(a.words)
	return a
}

// number returns a number that often is out of some bounds.
func (d *dice) number() int {
	numbers := []int{0, 1, 2, 3, 4, 9, 10, 12, 60, 61, 64, 65, 1000, 1001, -1, -2, -1 << 63, 1<<63 - 1}
	return numbers[d.below(len(numbers))]
}

// text returns a text that often is none of anything.
func (d *dice) text() string {
	return d.pick("", "a", "ab", "b", "c", "d", "A", "\x00", "\xff\xfe", "é", "a b", strings.Repeat("a", 8), strings.Repeat("a", 9), strings.Repeat("a", 1000))
}

// wild returns a house that need not be valid in any way.
func (d *dice) wild() api.House {
	h := d.roll(3)
	switch d.below(6) {
	case 0:
		h.List.Periods, h.Period = d.number(), d.number()
	case 1:
		h.List.Signs = append(h.List.Signs, api.Sign{Code: d.text(), Wide: d.number(), High: 1, Values: []api.Value{{Kind: d.number(), Text: d.text(), From: d.number(), To: d.number()}}})
	case 2:
		h.Lexicon.Entries = append(h.Lexicon.Entries, api.Entry{Root: d.text(), Kind: d.number(), Class: d.text(), Weight: d.number()})
	case 3:
		h.Lexicon.Endings = append(h.Lexicon.Endings, api.Ending{Kind: d.number(), Text: d.text(), Name: d.text(), Weight: d.number()})
	case 4:
		h.Lexicon.Clitics = append(h.Lexicon.Clitics, api.Clitic{Text: d.text(), Name: d.text(), Weight: d.number()})
	default:
		h.Costs = api.Costs{Spell: d.number(), Stand: d.number(), Repeat: d.number(), Close: d.number(), Open: d.number()}
	}
	return h
}

// wildWord returns a word that need not be one of any lexicon.
func (d *dice) wildWord() api.Spelled {
	w := api.Spelled{Form: api.Form{Entry: d.number(), Ending: d.number()}}
	if d.below(2) == 0 {
		w.Form.Entry, w.Form.Ending = d.below(3), -1
	}
	for range d.below(4) {
		w.Form.Clitics = append(w.Form.Clitics, d.number())
		w.Uses = append(w.Uses, api.Use{Kind: d.number(), Text: d.text()})
	}
	return w
}

// arguments returns arguments that are valid in many cases.
func (d *dice) arguments() arguments {
	a := arguments{h: d.roll(3), sign: d.below(3), most: 1 + d.below(64), cost: d.number()}
	if d.below(4) == 0 {
		a.h = d.wild()
	}
	a.line = d.line(a.h.List, 6)
	if d.below(8) == 0 {
		a.line = append(a.line, d.number())
	}
	if d.below(8) == 0 {
		a.line = slices.Repeat(a.line, 12)
	}
	a.at = d.below(len(a.line) + 1)
	if d.below(4) == 0 {
		a.sign, a.at, a.most = d.number(), d.number(), d.number()
	}
	for range len(a.line) + 1 {
		a.table = append(a.table, 0)
	}
	if d.below(2) == 0 {
		a.table[d.below(len(a.table))] = d.number()
	}
	a.words = d.words(a.h, a.line)
	return a
}

// words returns words some of which often are those of a reading.
func (d *dice) words(h api.House, line []int) []api.Spelled {
	if best, e := read.Best(h, line); e == api.OK && d.below(3) > 0 {
		return best.Words
	}
	if read.CheckHouse(h) == api.OK && d.below(3) > 0 {
		return d.reading(h, slices.DeleteFunc(slices.Clone(line), func(s int) bool { return s < 0 || s >= len(h.List.Signs) }))
	}
	var words []api.Spelled
	for range d.below(4) {
		words = append(words, d.wildWord())
	}
	return words
}

// calls are the results of all functions of the package; the first three depend
// on how signs are numbered or on the words.
func calls(a arguments) [][]any {
	var all [][]any
	add := func(results ...any) { all = append(all, results) }
	uses, e := read.Uses(a.h, a.sign)
	add(uses, e)
	var w api.Spelled
	if len(a.words) > 0 {
		w = a.words[0]
	}
	n, e := read.Price(a.h, a.line[:min(len(a.line), len(w.Uses))], w)
	add(n, e)
	cost, at, e := read.Valid(a.h, a.line, a.words)
	add(cost, at, e)
	add(read.CheckHouse(a.h))
	edges, e := read.Words(a.h, a.line, a.at)
	add(edges, e)
	edges, e = read.Forest(a.h, a.line)
	add(edges, e)
	n, e = read.Count(a.h, a.line)
	add(n, e)
	list, e := read.List(a.h, a.line, a.most)
	add(list, e)
	best, e := read.Best(a.h, a.line)
	add(best, e)
	edges, e = read.Certain(a.h, a.line)
	add(edges, e)
	n, e = read.Reach(a.h, a.line)
	add(n, e)
	table, e := read.Prove(a.h, a.line)
	add(table, e)
	ok, e := read.Proves(a.h, a.line, a.table, a.cost)
	add(ok, e)
	s, e := read.Text(a.h, a.words)
	add(s, e)
	s, e = read.Sounds(a.h, a.words)
	add(s, e)
	return all
}

// P0.1 and R4: no argument makes a function panic, the results depend on the
// arguments alone, and no argument is changed.
func TestAnyArguments(t *testing.T) {
	d := dice(20)
	for range 1500 {
		a := d.arguments()
		b := a.clone()
		first := calls(a)
		if !reflect.DeepEqual(a, b) {
			t.Fatalf("calls with %v change an argument", b)
		}
		if second := calls(b); !reflect.DeepEqual(first, second) {
			t.Fatalf("calls with %v give %v, then %v", a, first, second)
		}
	}
}

// R2: with an error every other result is its zero value, but for the place of Valid.
func TestZeroWithError(t *testing.T) {
	d := dice(21)
	failed := map[int]int{}
	for range 1500 {
		for i, results := range calls(d.arguments()) {
			last := len(results) - 1
			e, ok := results[last].(api.Errno)
			if !ok || e == api.OK {
				continue
			}
			failed[i]++
			if i == 2 { // Valid
				results = slices.Delete(results, 1, 2)
				last--
			}
			for _, r := range results[:last] {
				expectError(t, "a call", r, e, e)
			}
		}
	}
	for i := range 15 {
		if failed[i] < 50 {
			t.Errorf("call %d failed only %d times", i, failed[i])
		}
	}
}

// R3: nil lists and empty ones are the same in arguments.
func TestNilAndEmpty(t *testing.T) {
	d := dice(22)
	for range 500 {
		a := d.arguments()
		a.h.Lexicon.Clitics = nil
		if d.below(2) == 0 {
			a.line, a.words, a.table = nil, nil, nil
		}
		if d.below(4) == 0 {
			a.h.Lexicon.Entries, a.h.Lexicon.Endings = nil, nil
		}
		b := a.clone()
		b.h.Lexicon.Clitics = []api.Clitic{}
		b.h.Lexicon.Entries = append([]api.Entry{}, a.h.Lexicon.Entries...)
		b.h.Lexicon.Endings = append([]api.Ending{}, a.h.Lexicon.Endings...)
		b.line = append([]int{}, a.line...)
		b.table = append([]int{}, a.table...)
		b.words = append([]api.Spelled{}, b.words...)
		for i := range b.words {
			b.words[i].Form.Clitics = append([]int{}, b.words[i].Form.Clitics...)
			b.words[i].Uses = append([]api.Use{}, b.words[i].Uses...)
		}
		if first, second := calls(a), calls(b); !reflect.DeepEqual(first, second) {
			t.Fatalf("calls with nil lists %v give %v, with empty ones %v", a, first, second)
		}
	}
}

// scrawl overwrites all memory of a word, and of what is behind its lists.
func scrawl(w api.Spelled) {
	clitics, uses := w.Form.Clitics[:cap(w.Form.Clitics)], w.Uses[:cap(w.Uses)]
	for i := range clitics {
		clitics[i] = -99
	}
	for i := range uses {
		uses[i] = api.Use{Kind: -99, Text: "scrawl"}
	}
}

// expectApart checks that words of one result share no memory.
func expectApart(t *testing.T, what string, words []api.Spelled) {
	t.Helper()
	want := cloneWords(words)
	for i := range words {
		scrawl(words[i])
		for j := i + 1; j < len(words); j++ {
			if compareWords(words[j], want[j]) != 0 {
				t.Fatalf("the words %d and %d of %s share memory", i, j, what)
			}
		}
	}
}

// R4: the parts of a result share no memory with each other.
func TestApart(t *testing.T) {
	h := house(t, "periods 1\nA 1x1 s:a@1-1 w:a@1-1\n", "word a 1 - 0\nword aa 1 - 0\nclitic a x 0\nclitic a y 0\n", api.Costs{})
	l := make([]int, 6)
	byEdges := func(edges []api.Edge, _ api.Errno) (all []api.Spelled) {
		for _, d := range edges {
			all = append(all, d.Word)
		}
		return all
	}
	found, e := read.Words(h, l, 0)
	expectApart(t, "Words", byEdges(found, e))
	found, e = read.Forest(h, l)
	expectApart(t, "Forest", byEdges(found, e))
	long := slices.Repeat([]int{0}, 6)
	single := house(t, "periods 1\nA 1x1 s:a@1-1\n", "word aa 1 - 0\nclitic aaaa x 0\n", api.Costs{})
	found, e = read.Certain(single, long)
	if e != api.OK || len(found) > 0 {
		t.Errorf("Certain = %v, %d", found, e)
	}
	found, e = read.Certain(single, long[:2])
	expectApart(t, "Certain", byEdges(found, e))
	list, e := read.List(h, l, 64)
	if len(list) != 64 || e != api.OK {
		t.Fatalf("List are %d, %d", len(list), e)
	}
	var all []api.Spelled
	for _, r := range list {
		all = append(all, r.Words...)
	}
	expectApart(t, "List", all)
	// The lists of words themselves.
	for i := range list {
		behind := list[i].Words[:cap(list[i].Words)]
		for j := range behind {
			behind[j] = api.Spelled{Form: api.Form{Entry: -99}}
		}
		for j := i + 1; j < len(list); j++ {
			if list[j].Words[0].Form.Entry == -99 {
				t.Fatalf("the readings %d and %d share memory", i, j)
			}
		}
	}
}

// R4: a later call does not see what was written into a result.
func TestNothingKept(t *testing.T) {
	h := example(t)
	l := line(t, h, "H1 A1 C1")
	for range 2 {
		uses, e := read.Uses(h, l[0])
		if e != api.OK || len(uses) != 3 || uses[0].Text != "n" {
			t.Errorf("Uses = %v, %d", uses, e)
		}
		uses[0].Text = "x"
		best, e := read.Best(h, l)
		expectReadings(t, "Best", []api.Reading{best}, e, "5: 1=0 w:n r:n s:f")
		scrawl(best.Words[0])
		table, e := read.Prove(h, l)
		if e != api.OK || !slices.Equal(table, []int{5, 6, -1, 0}) {
			t.Errorf("Prove = %v, %d", table, e)
		}
		table[0] = 99
	}
}

const room = 3

// roomy is an equal list behind which there is memory of somebody else.
func roomy[T any](list []T) []T {
	return append(slices.Clip(list), make([]T, room)...)[:len(list)]
}

// touched reports whether somebody has written behind a list.
func touched[T any](list []T) bool {
	behind := list[len(list) : len(list)+room]
	return !reflect.DeepEqual(behind, make([]T, room))
}

// R4: nothing behind the lists of an argument is changed.
func TestMemoryBehindLists(t *testing.T) {
	d := dice(23)
	for range 300 {
		a := d.arguments().clone()
		a.line, a.table, a.words = roomy(a.line), roomy(a.table), roomy(a.words)
		for i := range a.words {
			a.words[i].Uses, a.words[i].Form.Clitics = roomy(a.words[i].Uses), roomy(a.words[i].Form.Clitics)
		}
		a.h.List.Signs = roomy(a.h.List.Signs)
		for i := range a.h.List.Signs {
			a.h.List.Signs[i].Values = roomy(a.h.List.Signs[i].Values)
		}
		a.h.Lexicon = api.Lexicon{Entries: roomy(a.h.Lexicon.Entries), Endings: roomy(a.h.Lexicon.Endings), Clitics: roomy(a.h.Lexicon.Clitics)}
		calls(a)
		if touched(a.line) || touched(a.table) || touched(a.words) || touched(a.h.List.Signs) || touched(a.h.Lexicon.Entries) || touched(a.h.Lexicon.Endings) || touched(a.h.Lexicon.Clitics) {
			t.Fatalf("calls with %v write behind a list", a)
		}
		for _, w := range a.words {
			if touched(w.Uses) || touched(w.Form.Clitics) {
				t.Fatalf("calls with %v write behind a list of a word", a)
			}
		}
		for _, s := range a.h.List.Signs {
			if touched(s.Values) {
				t.Fatalf("calls with %v write behind the values of a sign", a)
			}
		}
	}
}

// The weight and the sounds of words are those that package lexicon says.
func TestAsLexicon(t *testing.T) {
	d := dice(24)
	for range 500 {
		h := d.roll(3)
		h.Costs = api.Costs{}
		l := d.line(h.List, 6)
		edges, _ := read.Forest(h, l)
		for _, edge := range edges {
			weight, e := lexicon.Weight(h.Lexicon, edge.Word.Form)
			sounds, e2 := lexicon.Sounds(h.Lexicon, edge.Word.Form)
			said, e3 := read.Sounds(h, []api.Spelled{edge.Word})
			if weight != edge.Cost || e != api.OK || e2 != api.OK || e3 != api.OK || said != sounds || said != saidBy(edge.Word.Uses) {
				t.Fatalf("in %v the word %s weighs %d and has the sounds %q, the cost is %d", h, showEdge(edge), weight, sounds, edge.Cost)
			}
		}
	}
}
