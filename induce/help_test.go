package induce_test

import (
	"cmp"
	"reflect"
	"slices"
	"strconv"
	"strings"
	"testing"

	"ostracon/api"
	"ostracon/induce"
	"ostracon/lexicon"
	"ostracon/read"
	"ostracon/signs"
)

// The list and the lexicon of the chapter's section Examples.
const (
	exampleSigns = "A1 1x1 s:n@1-1\nB1 1x1 s:nfr@1-1\nC1 1x1 s:f@1-1\nD1 1x1 s:r@1-1\nE1 1x1 w:nfr@1-1\nF1 1x1 c:good@1-1\nG1 1x1 s:t@1-1\nH1 1x1 s:n@1-1 w:n@1-1\n"
	exampleWords = "word nfr 1 good 1\nword n 2 - 1\nword nf 2 - 1\nword r 2 - 1\nending 1 t fem 1\nclitic f his 3\n"
)

// example is the house, and the corpus, of the chapter's section Examples.
func example(t testing.TB) (api.House, [][]int) {
	t.Helper()
	h := house(t, exampleSigns, exampleWords, api.Costs{Spell: 1, Open: 4})
	return h, lines(t, h, "A1 C1 D1", "B1 F1", "A1 C1")
}

// house returns a house with one period.
func house(t testing.TB, list, words string, costs api.Costs) api.House {
	t.Helper()
	l, _, e := signs.Parse("periods 1\n" + list)
	x, _, e2 := lexicon.Parse(words)
	if e != api.OK || e2 != api.OK {
		t.Fatalf("the list %q and the lexicon %q: %d, %d", list, words, e, e2)
	}
	return api.House{List: l, Lexicon: x, Costs: costs, Period: 1}
}

// plain is a house of signs that each spell one sound, their code in small
// letters, and of words that cost nothing.
func plain(t testing.TB, codes, roots string) api.House {
	t.Helper()
	var list, words strings.Builder
	for code := range strings.FieldsSeq(codes) {
		list.WriteString(code + " 1x1 s:" + strings.ToLower(code) + "@1-1\n")
	}
	for root := range strings.FieldsSeq(roots) {
		root, kind, _ := strings.Cut(root, "/")
		words.WriteString("word " + root + " " + cmp.Or(kind, "1") + " - 0\n")
	}
	return house(t, list.String(), words.String(), api.Costs{})
}

// lines returns lines of the signs with some codes.
func lines(t testing.TB, h api.House, texts ...string) [][]int {
	t.Helper()
	var all [][]int
	for _, text := range texts {
		var line []int
		for code := range strings.FieldsSeq(text) {
			sign, e := signs.Find(h.List, code)
			if e != api.OK {
				t.Fatalf("there is no sign %q", code)
			}
			line = append(line, sign)
		}
		all = append(all, line)
	}
	return all
}

// odd is a line that is none.
func odd() []int { return []int{0, -1} }

// long is a line that has too many signs.
func long() []int { return make([]int, api.MaxLine+1) }

// need is an entry that some lines need.
func need(entry int, lines ...int) api.Needed { return api.Needed{Entry: entry, Lines: lines} }

// upTo returns the numbers from 0 to n - 1.
func upTo(n int) []int {
	var all []int
	for i := range n {
		all = append(all, i)
	}
	return all
}

// same reports whether two values are equal; nil lists equal empty ones.
func same(x, y any) bool { return sameValue(reflect.ValueOf(x), reflect.ValueOf(y)) }

func sameValue(x, y reflect.Value) bool {
	switch x.Kind() {
	case reflect.Interface:
		return sameValue(x.Elem(), y.Elem())
	case reflect.Slice:
		equal := x.Len() == y.Len()
		for i := 0; equal && i < x.Len(); i++ {
			equal = sameValue(x.Index(i), y.Index(i))
		}
		return equal
	case reflect.Struct:
		equal := true
		for i := 0; equal && i < x.NumField(); i++ {
			equal = sameValue(x.Field(i), y.Field(i))
		}
		return equal
	}
	return x.Type() == y.Type() && x.Equal(y)
}

func expect[T any](t *testing.T, what string, got T, e api.Errno, want T) {
	t.Helper()
	if e != api.OK || !same(got, want) {
		t.Errorf("%s = %v, %d, want %v", what, got, e, want)
	}
}

func expectError[T any](t *testing.T, what string, got T, e, want api.Errno) {
	t.Helper()
	var zero T
	if e != want || !same(got, zero) {
		t.Errorf("%s = %v, %d, want nothing, %d", what, got, e, want)
	}
}

// dice give a fixed series of numbers, so that every run of the tests is alike.
type dice uint64

func (d *dice) below(n int) int {
	*d = *d*6364136223846793005 + 1442695040888963407
	return int(uint64(*d)>>33) % n
}

func (d *dice) pick(texts ...string) string {
	return texts[d.below(len(texts))]
}

// roll returns a valid house of few sounds, weights and costs, so that lines have
// many readings, and many of the same cost.
func (d *dice) roll() api.House {
	h := api.House{List: d.rollList(), Lexicon: d.rollLexicon()}
	h.Period = 1 + d.below(h.List.Periods)
	h.Costs = api.Costs{Spell: d.below(3), Stand: d.below(3), Repeat: d.below(3), Close: d.below(3), Open: d.below(3)}
	return h
}

func (d *dice) rollList() api.List {
	l := api.List{Periods: 1 + d.below(2)}
	for i := range 3 + d.below(3) {
		s := api.Sign{Code: "S" + strconv.Itoa(i), Wide: 1, High: 1}
		for range 1 + d.below(3) {
			v := api.Value{Kind: api.Sound, Text: d.pick("a", "b", "c", "a", "b", "ab", "ba", "bcabc"), From: 1 + d.below(l.Periods), To: l.Periods}
			switch d.below(5) {
			case 0:
				v.Kind, v.Text = api.Word, d.pick("a", "ab", "aba", "b")
			case 1:
				v.Kind, v.Text = api.Class, d.pick("k", "m", "km")
			}
			s.Values = append(s.Values, v)
			if signs.Check(api.List{Periods: l.Periods, Signs: []api.Sign{s}}) != api.OK {
				s.Values = s.Values[:len(s.Values)-1]
			}
		}
		l.Signs = append(l.Signs, s)
	}
	return l
}

func (d *dice) rollLexicon() api.Lexicon {
	var x api.Lexicon
	for range 1 + d.below(8) {
		w := api.Entry{Root: d.pick("a", "b", "c", "ab", "ba", "bc", "aba"), Kind: 1 + d.below(2), Class: d.pick("", "", "k", "m"), Weight: d.below(3)}
		x.Entries = append(x.Entries, w)
		if lexicon.Check(x) != api.OK {
			x.Entries = x.Entries[:len(x.Entries)-1]
		}
	}
	for i := range d.below(2) {
		x.Endings = append(x.Endings, api.Ending{Kind: 1 + d.below(2), Text: d.pick("a", "b", "bc"), Name: strings.Repeat("z", i+1), Weight: d.below(3)})
	}
	for i := range d.below(3) {
		x.Clitics = append(x.Clitics, api.Clitic{Text: d.pick("a", "b", "c"), Name: strings.Repeat("q", i+1), Weight: d.below(3)})
	}
	return x
}

// line returns a line of at most most signs of a list.
func (d *dice) line(l api.List, most int) []int {
	var line []int
	for range d.below(most + 1) {
		line = append(line, d.below(len(l.Signs)))
	}
	return line
}

// lines returns lines of a house, most of them readable.
func (d *dice) lines(h api.House, most int) [][]int {
	var all [][]int
	for range d.below(3 * most) {
		line := d.line(h.List, 6)
		if len(all) < most && (readable(h, line, upTo(len(h.Lexicon.Entries))) || d.below(20) == 0) {
			all = append(all, line)
		}
	}
	return all
}

// choice returns a choice of the entries of a house.
func (d *dice) choice(h api.House) []int {
	return slices.DeleteFunc(upTo(len(h.Lexicon.Entries)), func(int) bool { return d.below(3) == 0 })
}

// The functions below say again, as plainly as they can, what the chapter says.

// few is the house with the entries of a choice alone.
func few(h api.House, keep []int) api.House {
	var entries []api.Entry
	for i, entry := range h.Lexicon.Entries {
		if slices.Contains(keep, i) {
			entries = append(entries, entry)
		}
	}
	h.Lexicon.Entries = entries
	return h
}

// readable reports whether a line is readable with a choice.
func readable(h api.House, line []int, keep []int) bool {
	n, e := read.Count(few(h, keep), line)
	if e != api.OK {
		panic(e)
	}
	return n > 0
}

// allReadable reports whether all lines are readable with a choice.
func allReadable(h api.House, corpus [][]int, keep []int) bool {
	return !slices.ContainsFunc(corpus, func(line []int) bool { return !readable(h, line, keep) })
}

// except returns a choice without an entry.
func except(keep []int, entry int) []int {
	return slices.DeleteFunc(slices.Clone(keep), func(other int) bool { return other == entry })
}

// needs are the lines that need an entry of a choice.
func needs(h api.House, corpus [][]int, keep []int, entry int) []int {
	var all []int
	for i, line := range corpus {
		if readable(h, line, keep) && !readable(h, line, except(keep, entry)) {
			all = append(all, i)
		}
	}
	return all
}

// thinned are the entries that Induce leaves.
func thinned(h api.House, corpus [][]int) []api.Needed {
	left := upTo(len(h.Lexicon.Entries))
	for i := len(left) - 1; i >= 0; i-- {
		if less := except(left, i); allReadable(h, corpus, less) {
			left = less
		}
	}
	var all []api.Needed
	for _, entry := range left {
		all = append(all, need(entry, needs(h, corpus, left, entry)...))
	}
	return all
}

// choices returns all choices of n entries.
func choices(n int) [][]int {
	all := [][]int{nil}
	for entry := range n {
		for _, keep := range all {
			all = append(all, append(slices.Clip(keep), entry))
		}
	}
	return all
}

// fewest is the smallest choice with which a corpus is readable, if there is one.
func fewest(h api.House, corpus [][]int) (best []int, ok bool) {
	for _, keep := range choices(len(h.Lexicon.Entries)) {
		if !allReadable(h, corpus, keep) {
			continue
		}
		if !ok || cmp.Or(len(keep)-len(best), slices.Compare(keep, best)) < 0 {
			best, ok = keep, true
		}
	}
	return best, ok
}

// placesOf are the words of an entry in the first readings with a choice.
func placesOf(h api.House, corpus [][]int, keep []int, entry int) (all []induce.Place, ok bool) {
	for i, line := range corpus {
		best, e := read.Best(few(h, keep), line)
		if e != api.OK {
			return nil, false
		}
		at := 0
		for _, w := range best.Words {
			if keep[w.Form.Entry] == entry {
				all = append(all, induce.Place{Line: i, From: at, To: at + len(w.Uses)})
			}
			at += len(w.Uses)
		}
	}
	return all, true
}

// proposal is an entry that is proposed, and from which signs: those of the
// stretch, and the one behind it.
type proposal struct {
	entry api.Entry
	signs []int
	uses  []api.Use
}

// proposalsOf are all proposals of a corpus, also those of the same entry.
func proposalsOf(l api.List, period int, corpus [][]int) []proposal {
	var all []proposal
	for _, line := range corpus {
		for from := range line {
			for n := 1; n <= 4 && from+n < len(line); n++ {
				for _, uses := range usesOf(l, period, line[from:from+n], line[from+n]) {
					root := ""
					for _, u := range uses[:n] {
						root += u.Text
					}
					if len(root) <= 8 {
						entry := api.Entry{Root: root, Kind: 1, Class: uses[n].Text, Weight: 1}
						all = append(all, proposal{entry, line[from : from+n+1], uses})
					}
				}
			}
		}
	}
	return all
}

// usesOf are all ways in which the signs of a stretch can spell, and one behind
// it can close.
func usesOf(l api.List, period int, stretch []int, behind int) [][]api.Use {
	all := [][]api.Use{nil}
	for i, sign := range append(slices.Clip(stretch), behind) {
		value, kind := api.Sound, api.Spells
		if i == len(stretch) {
			value, kind = api.Class, api.Closes
		}
		var longer [][]api.Use
		for _, uses := range all {
			for _, v := range l.Signs[sign].Values {
				if v.Kind == value && v.From <= period && period <= v.To {
					longer = append(longer, append(slices.Clip(uses), api.Use{Kind: kind, Text: v.Text}))
				}
			}
		}
		all = longer
	}
	return all
}

// proposed are the different entries of proposals, in order.
func proposed(all []proposal) []api.Entry {
	var entries []api.Entry
	for _, p := range all {
		if !slices.Contains(entries, p.entry) {
			entries = append(entries, p.entry)
		}
	}
	slices.SortFunc(entries, func(a, b api.Entry) int {
		return cmp.Or(strings.Compare(a.Root, b.Root), strings.Compare(a.Class, b.Class))
	})
	return entries
}
