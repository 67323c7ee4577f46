package spell_test

import (
	"cmp"
	"reflect"
	"slices"
	"strconv"
	"strings"
	"testing"

	"ostracon/api"
	"ostracon/lexicon"
	"ostracon/read"
	"ostracon/signs"
	"ostracon/spell"
)

// The list and the lexicon of the chapter's section Examples.
const (
	exampleSigns = "A1 1x1 s:n@1-1\nB1 1x1 s:nfr@1-1\nC1 1x1 s:f@1-1\nD1 1x1 s:r@1-1\nE1 1x1 w:nfr@1-1\nF1 1x1 c:good@1-1\nG1 1x1 s:t@1-1\nH1 1x1 s:n@1-1 w:n@1-1\n"
	exampleWords = "word nfr 1 good 2\nword n 2 - 1\nending 1 t fem 1\nclitic f his 3\n"
)

// The words of the example, without endings and clitics.
var (
	nfr = api.Form{Entry: 0, Ending: -1}
	n   = api.Form{Entry: 1, Ending: -1}
)

// example is the house of the chapter's section Examples; free and strict are
// the habits P and Q of it.
func example(t testing.TB) (h api.House, free, strict api.Habits) {
	t.Helper()
	h = house(t, exampleSigns, exampleWords, api.Costs{Spell: 1, Open: 4})
	strict = api.Habits{Signs: []int{0, 5, 0, 0, -1, 0, 0, 0}, Repeat: api.Always, Close: api.Always}
	return h, anything(h), strict
}

// house returns a house with one period.
func house(t testing.TB, list, words string, costs api.Costs) api.House {
	t.Helper()
	l, _, e := signs.Parse("periods 1\n" + list)
	x, _, e2 := lexicon.Parse(words)
	if e != api.OK || e2 != api.OK {
		t.Fatalf("the list %q and the lexicon %q: %d, %d", list, words, e, e2)
	}
	return api.House{List: l, Lexicon: x, Costs: costs, Period: 1}
}

// anything are the habits of somebody who has none.
func anything(h api.House) api.Habits {
	return api.Habits{Signs: make([]int, len(h.List.Signs)), Repeat: api.May, Close: api.May}
}

const useLetters = "-swrc"

// strokes returns the signs and the uses that are written as "B1/s:nfr D1/r:r":
// the sign B1 spells, and D1 repeats (w: it stands, c: it closes).
func strokes(t testing.TB, h api.House, text string) (line []int, uses []api.Use) {
	t.Helper()
	for field := range strings.FieldsSeq(text) {
		code, use, used := strings.Cut(field, "/")
		sign, e := signs.Find(h.List, code)
		if e != api.OK {
			t.Fatalf("there is no sign %q", code)
		}
		line = append(line, sign)
		if used {
			uses = append(uses, api.Use{Kind: strings.IndexByte(useLetters, use[0]), Text: use[2:]})
		}
	}
	return line, uses
}

// line returns the numbers of the signs with these codes.
func line(t testing.TB, h api.House, codes string) []int {
	t.Helper()
	l, _ := strokes(t, h, codes)
	return l
}

// showSpelling writes the cost of a spelling, and then its signs with their uses.
func showSpelling(h api.House, s api.Spelling) string {
	text := strconv.Itoa(s.Cost) + ":"
	for i, sign := range s.Signs {
		text += " " + h.List.Signs[sign].Code + "/" + useLetters[s.Uses[i].Kind:s.Uses[i].Kind+1] + ":" + s.Uses[i].Text
	}
	return text
}

func showSpellings(h api.House, all []api.Spelling) []string {
	var texts []string
	for _, s := range all {
		texts = append(texts, showSpelling(h, s))
	}
	return texts
}

func expectSpellings(t *testing.T, what string, h api.House, got []api.Spelling, e api.Errno, want ...string) {
	t.Helper()
	if texts := showSpellings(h, got); e != api.OK || !slices.Equal(texts, want) {
		t.Errorf("%s = %q, %d, want %q", what, texts, e, want)
	}
}

func expectError(t *testing.T, what string, result any, e, want api.Errno) {
	t.Helper()
	if v := reflect.ValueOf(result); e != want || v.Kind() == reflect.Slice && v.Len() > 0 || v.Kind() != reflect.Slice && !v.IsZero() {
		t.Errorf("%s = %v, %d, want nothing, %d", what, result, e, want)
	}
}

func expectCount(t *testing.T, h api.House, b api.Habits, f api.Form, want int) {
	t.Helper()
	if got, e := spell.Count(h, b, f); got != want || e != api.OK {
		t.Errorf("Count with %v of %v = %d, %d, want %d", b, f, got, e, want)
	}
}

// dice give a fixed series of numbers, so that every run of the tests is alike.
type dice uint64

func (d *dice) below(n int) int {
	*d = *d*6364136223846793005 + 1442695040888963407
	return int(uint64(*d)>>33) % n
}

func (d *dice) pick(texts ...string) string {
	return texts[d.below(len(texts))]
}

// roll returns a valid house of few sounds, weights and costs, so that there are
// many spellings, and many of the same cost.
func (d *dice) roll() api.House {
	h := api.House{List: d.rollList(), Lexicon: d.rollLexicon()}
	h.Period = 1 + d.below(h.List.Periods)
	h.Costs = api.Costs{Spell: d.below(3), Stand: d.below(3), Repeat: d.below(3), Close: d.below(3), Open: d.below(3)}
	return h
}

func (d *dice) rollList() api.List {
	l := api.List{Periods: 1 + d.below(2)}
	for i := range 3 + d.below(3) {
		s := api.Sign{Code: "S" + strconv.Itoa(i), Wide: 1, High: 1}
		for range 1 + d.below(3) {
			v := api.Value{Kind: api.Sound, Text: d.pick("a", "b", "a", "b", "ab", "ba", "aa", "aba"), From: 1 + d.below(l.Periods), To: l.Periods}
			switch d.below(5) {
			case 0:
				v.Kind, v.Text = api.Word, d.pick("a", "ab", "aba", "b")
			case 1:
				v.Kind, v.Text = api.Class, d.pick("c", "d")
			}
			s.Values = append(s.Values, v)
			if signs.Check(api.List{Periods: l.Periods, Signs: []api.Sign{s}}) != api.OK {
				s.Values = s.Values[:len(s.Values)-1]
			}
		}
		l.Signs = append(l.Signs, s)
	}
	return l
}

func (d *dice) rollLexicon() api.Lexicon {
	var x api.Lexicon
	for range 1 + d.below(4) {
		w := api.Entry{Root: d.pick("a", "b", "ab", "aa", "aba"), Kind: 1 + d.below(2), Class: d.pick("", "c", "d"), Weight: d.below(3)}
		x.Entries = append(x.Entries, w)
		if lexicon.Check(x) != api.OK {
			x.Entries = x.Entries[:len(x.Entries)-1]
		}
	}
	for i := range d.below(3) {
		x.Endings = append(x.Endings, api.Ending{Kind: 1 + d.below(2), Text: d.pick("a", "b", "ba"), Name: d.pick("x", "y") + strings.Repeat("z", i), Weight: d.below(3)})
	}
	for i := range d.below(4) {
		x.Clitics = append(x.Clitics, api.Clitic{Text: d.pick("a", "b", "ab"), Name: strings.Repeat("q", i+1), Weight: d.below(3)})
	}
	return x
}

// habits returns valid habits for a house.
func (d *dice) habits(h api.House) api.Habits {
	b := api.Habits{Repeat: d.below(3), Close: d.below(3)}
	for range h.List.Signs {
		b.Signs = append(b.Signs, max(d.below(10)-1, -1)%3)
	}
	return b
}

// form returns a form of the lexicon of a house.
func (d *dice) form(h api.House) api.Form {
	f, e := lexicon.Forms(h.Lexicon, d.below(len(h.Lexicon.Entries)))
	if e != api.OK {
		panic(e)
	}
	return f[d.below(len(f))]
}

// line returns a line of at most most signs of a house.
func (d *dice) line(h api.House, most int) []int {
	var line []int
	for range d.below(most + 1) {
		line = append(line, d.below(len(h.List.Signs)))
	}
	return line
}

// The functions below say again, as plainly as they can, what the chapter says
// of habits and spellings.

// echoes reports whether a use Stands, or Spells two or more sounds.
func echoes(u api.Use) bool {
	return u.Kind == api.Stands || u.Kind == api.Spells && len(u.Text) >= 2
}

// repeated reports whether right behind a use there is one that Repeats.
func repeated(uses []api.Use, i int) bool {
	return i+1 < len(uses) && uses[i+1].Kind == api.Repeats
}

func has(uses []api.Use, kind int) bool {
	return slices.ContainsFunc(uses, func(u api.Use) bool { return u.Kind == kind })
}

// keep reports whether signs keep habits with a word that they spell.
func keep(h api.House, b api.Habits, line []int, w api.Spelled) bool {
	for _, sign := range line {
		if b.Signs[sign] == -1 {
			return false
		}
	}
	if b.Repeat == api.Never && has(w.Uses, api.Repeats) || b.Close == api.Never && has(w.Uses, api.Closes) {
		return false
	}
	for i, u := range w.Uses {
		if b.Repeat == api.Always && echoes(u) && !repeated(w.Uses, i) {
			return false
		}
	}
	return b.Close != api.Always || h.Lexicon.Entries[w.Form.Entry].Class == "" || has(w.Uses, api.Closes)
}

// spellingsOf are the spellings of a form that keep habits, in order: all signs
// with all of their uses that say the sounds are tried. It gives up if these are
// too many.
func spellingsOf(h api.House, b api.Habits, f api.Form) (found []api.Spelling, ok bool) {
	sounds, e := lexicon.Sounds(h.Lexicon, f)
	if e != api.OK {
		panic(e)
	}
	var all [][]api.Use
	for sign := range h.List.Signs {
		all = append(all, usesOf(h, sign))
	}
	tries := 4000
	var try func(signs []int, uses []api.Use, said string)
	try = func(signs []int, uses []api.Use, said string) {
		tries--
		if said == sounds {
			if cost, ok := costOf(h, b, signs, api.Spelled{Form: f, Uses: uses}); ok {
				found = append(found, api.Spelling{Signs: slices.Clone(signs), Uses: slices.Clone(uses), Cost: cost})
			}
		}
		if len(signs) == 12 {
			return
		}
		for sign, its := range all {
			for _, u := range its {
				more := said
				if u.Kind == api.Spells || u.Kind == api.Stands {
					more += u.Text
				}
				if tries > 0 && strings.HasPrefix(sounds, more) && promising(uses, u) {
					try(append(signs, sign), append(uses, u), more)
				}
			}
		}
	}
	try(nil, nil, "")
	slices.SortFunc(found, compareSpellings)
	return found, tries > 0
}

// promising reports whether a word can perhaps go on with a use.
func promising(uses []api.Use, u api.Use) bool {
	switch u.Kind {
	case api.Repeats:
		return len(uses) > 0 && echoes(uses[len(uses)-1])
	case api.Stands:
		return len(uses) == 0
	case api.Closes:
		return !has(uses, api.Closes)
	}
	return true
}

// costOf is what a spelling that keeps habits costs.
func costOf(h api.House, b api.Habits, signs []int, w api.Spelled) (cost int, ok bool) {
	cost, e := read.Price(h, signs, w)
	if e != api.OK || !keep(h, b, signs, w) {
		return 0, false
	}
	for _, sign := range signs {
		cost += b.Signs[sign]
	}
	return cost, true
}

func usesOf(h api.House, sign int) []api.Use {
	uses, e := read.Uses(h, sign)
	if e != api.OK {
		panic(e)
	}
	return uses
}

func compareSpellings(a, b api.Spelling) int {
	if order := cmp.Or(a.Cost-b.Cost, len(a.Signs)-len(b.Signs)); order != 0 {
		return order
	}
	for i := range a.Signs {
		x, y := a.Uses[i], b.Uses[i]
		if order := cmp.Or(a.Signs[i]-b.Signs[i], x.Kind-y.Kind, strings.Compare(x.Text, y.Text)); order != 0 {
			return order
		}
	}
	return 0
}

func compareForms(a, b api.Form) int {
	return cmp.Or(a.Entry-b.Entry, a.Ending-b.Ending, slices.Compare(a.Clitics, b.Clitics))
}

func sameForm(a, b api.Form) bool { return compareForms(a, b) == 0 }

// readingsOf are all readings of a line of which all words keep habits.
func readingsOf(h api.House, b api.Habits, line []int) []api.Reading {
	words, e := read.Forest(h, line)
	if e != api.OK {
		panic(e)
	}
	var found []api.Reading
	var divide func(at int, r api.Reading)
	divide = func(at int, r api.Reading) {
		if at == len(line) {
			found = append(found, r)
			return
		}
		for _, w := range words {
			if w.From == at && keep(h, b, line[at:w.To], w.Word) {
				divide(w.To, api.Reading{Words: append(slices.Clip(r.Words), w.Word), Cost: r.Cost + w.Cost})
			}
		}
	}
	divide(0, api.Reading{})
	return found
}

// compareReadings is the order of layer 6.
func compareReadings(a, b api.Reading) int {
	return cmp.Or(a.Cost-b.Cost, slices.CompareFunc(a.Words, b.Words, func(v, w api.Spelled) int {
		return cmp.Or(len(v.Uses)-len(w.Uses), compareForms(v.Form, w.Form), slices.CompareFunc(v.Uses, w.Uses, func(x, y api.Use) int {
			return cmp.Or(x.Kind-y.Kind, strings.Compare(x.Text, y.Text))
		}))
	}))
}
