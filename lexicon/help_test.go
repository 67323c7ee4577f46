package lexicon_test

import (
	"cmp"
	"math/bits"
	"reflect"
	"slices"
	"strings"
	"testing"

	"ostracon/api"
	"ostracon/lexicon"
)

// example is the lexicon of the chapter's section Examples.
const example = "word nfr 1 good 2\nword n 2 - 1\nending 1 t fem 1\nclitic f his 1\nclitic r to 0\n"

func parse(t testing.TB, text string) api.Lexicon {
	t.Helper()
	x, line, e := lexicon.Parse(text)
	if e != api.OK || line != 0 {
		t.Fatalf("Parse(%q): line %d, error %d", text, line, e)
	}
	return x
}

func form(entry, ending int, clitics ...int) api.Form {
	return api.Form{Entry: entry, Ending: ending, Clitics: clitics}
}

// broken is a lexicon whose error of Check is ErrEnding.
func broken() api.Lexicon {
	return api.Lexicon{Entries: []api.Entry{{Root: "a", Kind: 1}}, Endings: []api.Ending{{}}}
}

// brokenEntry is a lexicon whose error of Check is ErrWord.
func brokenEntry() api.Lexicon {
	return api.Lexicon{Entries: []api.Entry{{}}}
}

// brokenClitic is a lexicon whose error of Check is ErrClitic.
func brokenClitic() api.Lexicon {
	return api.Lexicon{Entries: []api.Entry{{Root: "a", Kind: 1}}, Clitics: []api.Clitic{{}}}
}

// numbered is a name or class for each number below 26 * 26.
func numbered(n int) string {
	return string([]byte{byte('a' + n/26), byte('a' + n%26)})
}

// crowd is a lexicon with so many entries, endings and clitics, which are all a
// and of kind 1, and weigh less and less.
func crowd(entries, endings, clitics int) api.Lexicon {
	var x api.Lexicon
	for i := range entries {
		x.Entries = append(x.Entries, api.Entry{Root: "a", Kind: 1, Class: numbered(i), Weight: entries - i})
	}
	for i := range endings {
		x.Endings = append(x.Endings, api.Ending{Kind: 1, Text: "a", Name: numbered(i), Weight: endings - i})
	}
	for i := range clitics {
		x.Clitics = append(x.Clitics, api.Clitic{Text: "a", Name: numbered(i), Weight: clitics - i})
	}
	return x
}

// dice give a fixed series of numbers, so that every run of the tests is alike.
type dice uint64

func (d *dice) below(n int) int {
	*d = *d*6364136223846793005 + 1442695040888963407
	return int(uint64(*d)>>33) % n
}

func (d *dice) pick(texts ...string) string {
	return texts[d.below(len(texts))]
}

// roll returns a valid lexicon of few sounds and weights, so that many forms
// sound alike and weigh the same.
func (d *dice) roll() api.Lexicon {
	var x api.Lexicon
	for range d.below(6) {
		w := api.Entry{Root: d.pick("a", "b", "ab", "aa", "aba"), Kind: 1 + d.below(2), Class: d.pick("", "", "c", "d"), Weight: d.below(3)}
		x.Entries = append(x.Entries, w)
		if lexicon.Check(x) != api.OK {
			x.Entries = x.Entries[:len(x.Entries)-1]
		}
	}
	for range d.below(5) {
		n := api.Ending{Kind: 1 + d.below(2), Text: d.pick("a", "b", "ba"), Name: d.pick("x", "y", "z"), Weight: d.below(3)}
		x.Endings = append(x.Endings, n)
		if lexicon.Check(x) != api.OK {
			x.Endings = x.Endings[:len(x.Endings)-1]
		}
	}
	for i := range d.below(6) {
		x.Clitics = append(x.Clitics, api.Clitic{Text: d.pick("a", "b", "ab"), Name: numbered(d.below(9)*9 + i), Weight: d.below(3)})
	}
	return x
}

// speech returns up to most sounds, few of which no form of a roll has.
func (d *dice) speech(most int) string {
	s := ""
	for range 1 + d.below(most) {
		s += d.pick("a", "b", "a", "b", "a", "b", "a", "b", "a", "b", "A")
	}
	return s
}

// number returns a number that often is out of some bounds.
func (d *dice) number() int {
	numbers := []int{0, 1, 2, 3, 4, 9, 10, 64, 65, 1000, 1001, -1, -2, -1 << 63, 1<<63 - 1}
	return numbers[d.below(len(numbers))]
}

// text returns a text that often has not the form of anything.
func (d *dice) text() string {
	return d.pick("", "a", "ab", "aba", "abab", "nfr", "a/1", "a/1/c", "a/2-x", "b/1=aa", "a/1-x=aa=ab", "word a 1 - 0\n", "word a 1 - 0", "clitic a b 0\nword a 1 - 0\n",
		"\x00", "\xff\xfe", "é", "a ", "@", "=", "-", "/", "\n", strings.Repeat("a", 64), strings.Repeat("a", 65), strings.Repeat("=", 400))
}

// wild returns a lexicon that need not be valid in any way.
func (d *dice) wild() api.Lexicon {
	var x api.Lexicon
	for range d.below(3) {
		x.Entries = append(x.Entries, api.Entry{Root: d.text(), Kind: d.number(), Class: d.text(), Weight: d.number()})
	}
	for range d.below(3) {
		x.Endings = append(x.Endings, api.Ending{Kind: d.number(), Text: d.text(), Name: d.text(), Weight: d.number()})
	}
	for range d.below(3) {
		x.Clitics = append(x.Clitics, api.Clitic{Text: d.text(), Name: d.text(), Weight: d.number()})
	}
	return x
}

// someLexicon is a lexicon that is valid in most cases.
func (d *dice) someLexicon() api.Lexicon {
	if d.below(4) == 0 {
		return d.wild()
	}
	return d.roll()
}

// someForm is a form that need not be one of any lexicon.
func (d *dice) someForm() api.Form {
	f := form(d.below(5), d.below(5)-1)
	if d.below(4) == 0 {
		f.Entry, f.Ending = d.number(), d.number()
	}
	for range d.below(5) {
		f.Clitics = append(f.Clitics, d.below(6))
	}
	if d.below(2) == 0 {
		slices.Sort(f.Clitics)
	}
	return f
}

// The functions below say again, as plainly as they can, what the forms of a
// lexicon and the cuts of a line of sounds are.

func compareForms(a, b api.Form) int {
	return cmp.Or(a.Entry-b.Entry, a.Ending-b.Ending, slices.Compare(a.Clitics, b.Clitics))
}

func compareCuts(a, b lexicon.Cut) int {
	return cmp.Or(a.Weight-b.Weight, slices.CompareFunc(a.Forms, b.Forms, compareForms))
}

func sameForm(a, b api.Form) bool { return compareForms(a, b) == 0 }

func sameCut(a, b lexicon.Cut) bool { return compareCuts(a, b) == 0 }

// formsOf are all forms of an entry, in order.
func formsOf(x api.Lexicon, entry int) []api.Form {
	var all []api.Form
	for ending := -1; ending < len(x.Endings); ending++ {
		if ending >= 0 && x.Endings[ending].Kind != x.Entries[entry].Kind {
			continue
		}
		for set := range uint(1) << len(x.Clitics) {
			if bits.OnesCount(set) <= 3 {
				all = append(all, form(entry, ending, members(set)...))
			}
		}
	}
	slices.SortFunc(all, compareForms)
	return all
}

// members are the numbers of the bits of a set, ascending.
func members(set uint) []int {
	var numbers []int
	for i := range bits.Len(set) {
		if set>>i&1 == 1 {
			numbers = append(numbers, i)
		}
	}
	return numbers
}

func soundsOf(x api.Lexicon, f api.Form) string {
	s := x.Entries[f.Entry].Root
	if f.Ending >= 0 {
		s += x.Endings[f.Ending].Text
	}
	for _, c := range f.Clitics {
		s += x.Clitics[c].Text
	}
	return s
}

func weightOf(x api.Lexicon, forms ...api.Form) int {
	weight := 0
	for _, f := range forms {
		weight += x.Entries[f.Entry].Weight
		if f.Ending >= 0 {
			weight += x.Endings[f.Ending].Weight
		}
		for _, c := range f.Clitics {
			weight += x.Clitics[c].Weight
		}
	}
	return weight
}

// bySounds are the forms with the same sounds, in order, by these sounds.
func bySounds(x api.Lexicon) map[string][]api.Form {
	all := map[string][]api.Form{}
	for entry := range x.Entries {
		for _, f := range formsOf(x, entry) {
			s := soundsOf(x, f)
			all[s] = append(all[s], f)
		}
	}
	return all
}

// cutsOf are all cuts of a line of sounds, in order; forms are those by sounds.
func cutsOf(x api.Lexicon, forms map[string][]api.Form, s string) []lexicon.Cut {
	var cuts []lexicon.Cut
	var cut func(done []api.Form, rest string)
	cut = func(done []api.Form, rest string) {
		if rest == "" {
			cuts = append(cuts, lexicon.Cut{Forms: slices.Clone(done), Weight: weightOf(x, done...)})
		}
		for n := 1; n <= len(rest); n++ {
			for _, f := range forms[rest[:n]] {
				cut(append(slices.Clone(done), f), rest[n:])
			}
		}
	}
	cut(nil, s)
	slices.SortFunc(cuts, compareCuts)
	return cuts
}

func cloneForm(f api.Form) api.Form {
	return form(f.Entry, f.Ending, slices.Clone(f.Clitics)...)
}

func clone(x api.Lexicon) api.Lexicon {
	return api.Lexicon{Entries: slices.Clone(x.Entries), Endings: slices.Clone(x.Endings), Clitics: slices.Clone(x.Clitics)}
}

func expectForms(t *testing.T, what string, got []api.Form, e api.Errno, want ...api.Form) {
	t.Helper()
	if e != api.OK || !slices.EqualFunc(got, want, sameForm) {
		t.Errorf("%s = %v, %d, want %v", what, got, e, want)
	}
}

func expectError(t *testing.T, what string, result any, e, want api.Errno) {
	t.Helper()
	if v := reflect.ValueOf(result); e != want || v.Kind() == reflect.Slice && v.Len() > 0 || v.Kind() != reflect.Slice && !v.IsZero() {
		t.Errorf("%s = %v, %d, want nothing, %d", what, result, e, want)
	}
}
