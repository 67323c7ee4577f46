package read_test

import (
	"cmp"
	"reflect"
	"slices"
	"strconv"
	"strings"
	"testing"

	"ostracon/api"
	"ostracon/lexicon"
	"ostracon/read"
	"ostracon/signs"
)

// The list and the lexicon of the chapter's section Examples.
const (
	exampleSigns = "A1 1x1 s:n@1-1\nB1 1x1 s:nfr@1-1\nC1 1x1 s:f@1-1\nD1 1x1 s:r@1-1\nE1 1x1 w:nfr@1-1\nF1 1x1 c:good@1-1\nG1 1x1 s:t@1-1\nH1 1x1 s:n@1-1 w:n@1-1\n"
	exampleWords = "word nfr 1 good 2\nword n 2 - 1\nending 1 t fem 1\nclitic f his 3\n"
)

// example is the house of the chapter's section Examples.
func example(t testing.TB) api.House {
	return house(t, "periods 1\n"+exampleSigns, exampleWords, api.Costs{Spell: 1, Open: 4})
}

func house(t testing.TB, list, words string, costs api.Costs) api.House {
	t.Helper()
	l, _, e := signs.Parse(list)
	x, _, e2 := lexicon.Parse(words)
	if e != api.OK || e2 != api.OK {
		t.Fatalf("the list %q and the lexicon %q: %d, %d", list, words, e, e2)
	}
	h := api.House{List: l, Lexicon: x, Costs: costs, Period: 1}
	if e := read.CheckHouse(h); e != api.OK {
		t.Fatalf("CheckHouse: %d", e)
	}
	return h
}

// line returns the numbers of the signs with these codes.
func line(t testing.TB, h api.House, codes string) []int {
	t.Helper()
	var l []int
	for code := range strings.FieldsSeq(codes) {
		sign, e := signs.Find(h.List, code)
		if e != api.OK {
			t.Fatalf("there is no sign %q", code)
		}
		l = append(l, sign)
	}
	return l
}

const useLetters = "-swrc"

// word returns the word that is written as its form and its uses: "0-1=0=2 s:a
// w:a r:a c:a" has the entry 0, the ending 1, the clitics 0 and 2, and signs
// that spell, stand, repeat and close.
func word(text string) api.Spelled {
	fields := strings.Fields(text)
	w := api.Spelled{Form: form(fields[0])}
	for _, f := range fields[1:] {
		w.Uses = append(w.Uses, api.Use{Kind: strings.IndexByte(useLetters, f[0]), Text: f[2:]})
	}
	return w
}

func form(text string) api.Form {
	numbers := strings.Split(text, "=")
	entry, ending, ended := strings.Cut(numbers[0], "-")
	f := api.Form{Entry: number(entry), Ending: -1}
	if ended {
		f.Ending = number(ending)
	}
	for _, n := range numbers[1:] {
		f.Clitics = append(f.Clitics, number(n))
	}
	return f
}

func number(digits string) int {
	n, err := strconv.Atoi(digits)
	if err != nil {
		panic(err)
	}
	return n
}

// words returns the words that are written with "|" between them.
func words(text string) []api.Spelled {
	var all []api.Spelled
	for w := range strings.SplitSeq(text, "|") {
		if strings.TrimSpace(w) != "" {
			all = append(all, word(w))
		}
	}
	return all
}

// showWord is the inverse of word.
func showWord(w api.Spelled) string {
	s := strconv.Itoa(w.Form.Entry)
	if w.Form.Ending >= 0 {
		s += "-" + strconv.Itoa(w.Form.Ending)
	}
	for _, c := range w.Form.Clitics {
		s += "=" + strconv.Itoa(c)
	}
	for _, u := range w.Uses {
		s += " " + useLetters[u.Kind:u.Kind+1] + ":" + u.Text
	}
	return s
}

// showEdge writes where a word stands and what it costs, and then the word.
func showEdge(d api.Edge) string {
	return strconv.Itoa(d.From) + "-" + strconv.Itoa(d.To) + " " + strconv.Itoa(d.Cost) + ": " + showWord(d.Word)
}

// showReading writes the cost of a reading, and then its words.
func showReading(r api.Reading) string {
	var texts []string
	for _, w := range r.Words {
		texts = append(texts, showWord(w))
	}
	return strconv.Itoa(r.Cost) + ": " + strings.Join(texts, " | ")
}

func expectEdges(t *testing.T, what string, got []api.Edge, e api.Errno, want ...string) {
	t.Helper()
	var texts []string
	for _, d := range got {
		texts = append(texts, showEdge(d))
	}
	if e != api.OK || !slices.Equal(texts, want) {
		t.Errorf("%s = %q, %d, want %q", what, texts, e, want)
	}
}

func expectReadings(t *testing.T, what string, got []api.Reading, e api.Errno, want ...string) {
	t.Helper()
	var texts []string
	for _, r := range got {
		texts = append(texts, showReading(r))
	}
	if e != api.OK || !slices.Equal(texts, want) {
		t.Errorf("%s = %q, %d, want %q", what, texts, e, want)
	}
}

func expectError(t *testing.T, what string, result any, e, want api.Errno) {
	t.Helper()
	if v := reflect.ValueOf(result); e != want || v.Kind() == reflect.Slice && v.Len() > 0 || v.Kind() != reflect.Slice && !v.IsZero() {
		t.Errorf("%s = %v, %d, want nothing, %d", what, result, e, want)
	}
}

// numbered is a name or class for each number below 26 * 26.
func numbered(n int) string {
	return string([]byte{byte('a' + n/26), byte('a' + n%26)})
}

// dice give a fixed series of numbers, so that every run of the tests is alike.
type dice uint64

func (d *dice) below(n int) int {
	*d = *d*6364136223846793005 + 1442695040888963407
	return int(uint64(*d)>>33) % n
}

func (d *dice) pick(texts ...string) string {
	return texts[d.below(len(texts))]
}

// roll returns a valid house of few sounds, weights and costs, so that there are
// many words, and many readings of the same cost. Its signs have at most most
// values.
func (d *dice) roll(most int) api.House {
	h := api.House{List: api.List{Periods: 1 + d.below(3)}, Lexicon: d.rollLexicon()}
	h.Period = 1 + d.below(h.List.Periods)
	h.Costs = api.Costs{Spell: d.below(3), Stand: d.below(3), Repeat: d.below(3), Close: d.below(3), Open: d.below(3)}
	for i := range 1 + d.below(5) {
		s := api.Sign{Code: "S" + strconv.Itoa(i), Wide: 1, High: 1}
		for range 1 + d.below(most) {
			v := api.Value{Kind: api.Sound, Text: d.pick("a", "b", "ab", "ba", "aba", "a", "b", "aa"), From: 1, To: h.List.Periods}
			if d.below(4) == 0 {
				v.From = 1 + d.below(h.List.Periods)
			}
			switch d.below(6) {
			case 0:
				v.Kind = api.Word
			case 1:
				v.Kind, v.Text = api.Class, d.pick("c", "d")
			}
			s.Values = append(s.Values, v)
			if signs.Check(api.List{Periods: h.List.Periods, Signs: []api.Sign{s}}) != api.OK {
				s.Values = s.Values[:len(s.Values)-1]
			}
		}
		h.List.Signs = append(h.List.Signs, s)
	}
	return h
}

func (d *dice) rollLexicon() api.Lexicon {
	var x api.Lexicon
	for range 2 + d.below(4) {
		w := api.Entry{Root: d.pick("a", "b", "a", "b", "ab", "aa", "aba", "bab"), Kind: 1 + d.below(2), Class: d.pick("", "c", "d"), Weight: d.below(3)}
		x.Entries = append(x.Entries, w)
		if lexicon.Check(x) != api.OK {
			x.Entries = x.Entries[:len(x.Entries)-1]
		}
	}
	for range d.below(4) {
		n := api.Ending{Kind: 1 + d.below(2), Text: d.pick("a", "b", "ba"), Name: d.pick("x", "y", "z"), Weight: d.below(3)}
		x.Endings = append(x.Endings, n)
		if lexicon.Check(x) != api.OK {
			x.Endings = x.Endings[:len(x.Endings)-1]
		}
	}
	for i := range d.below(5) {
		x.Clitics = append(x.Clitics, api.Clitic{Text: d.pick("a", "b", "ab"), Name: numbered(i), Weight: d.below(3)})
	}
	return x
}

// line returns a line of at most most signs of a list.
func (d *dice) line(l api.List, most int) []int {
	var line []int
	for range d.below(most + 1) {
		line = append(line, d.below(len(l.Signs)))
	}
	return line
}

// The functions below say again, as plainly as they can, what the chapter says
// of words and readings.

// usesOf are the uses of a sign, in order.
func usesOf(h api.House, sign int) []api.Use {
	var all []api.Use
	for _, v := range h.List.Signs[sign].Values {
		if v.From > h.Period || v.To < h.Period {
			continue
		}
		for kind, value := range []int{api.Spells: api.Sound, api.Stands: api.Word, api.Repeats: api.Sound, api.Closes: api.Class} {
			if v.Kind == value {
				all = append(all, api.Use{Kind: kind, Text: v.Text})
			}
		}
	}
	slices.SortFunc(all, compareUses)
	return all
}

func compareUses(a, b api.Use) int {
	return cmp.Or(a.Kind-b.Kind, strings.Compare(a.Text, b.Text))
}

// partsOf are the texts of the body and of the clitics of a form.
func partsOf(x api.Lexicon, f api.Form) []string {
	body := x.Entries[f.Entry].Root
	if f.Ending >= 0 {
		body += x.Endings[f.Ending].Text
	}
	parts := []string{body}
	for _, c := range f.Clitics {
		parts = append(parts, x.Clitics[c].Text)
	}
	return parts
}

// obeys reports whether uses follow the grammar, and all sounds of the form are
// spelled.
func obeys(x api.Lexicon, w api.Spelled) bool {
	entry, parts := x.Entries[w.Form.Entry], partsOf(x, w.Form)
	said, breaks := "", map[int]bool{}
	for i, u := range w.Uses {
		switch u.Kind {
		case api.Spells:
			said += u.Text
			breaks[len(said)] = true
		case api.Stands:
			if i > 0 || u.Text != entry.Root {
				return false
			}
			said = u.Text
			breaks[len(said)] = true
		case api.Repeats:
			if i == 0 {
				return false
			}
			last := w.Uses[i-1]
			if last.Kind != api.Stands && (last.Kind != api.Spells || len(last.Text) < 2) || !strings.HasSuffix(last.Text, u.Text) {
				return false
			}
		case api.Closes:
			closed := slices.ContainsFunc(w.Uses[:i], func(u api.Use) bool { return u.Kind == api.Closes })
			if len(said) != len(parts[0]) || entry.Class == "" || u.Text != entry.Class || closed {
				return false
			}
		}
	}
	end := 0
	for _, p := range parts {
		end += len(p)
		if !breaks[end] {
			return false
		}
	}
	return said == strings.Join(parts, "")
}

// costOf is what a word costs.
func costOf(h api.House, w api.Spelled) int {
	entry := h.Lexicon.Entries[w.Form.Entry]
	cost := entry.Weight
	if w.Form.Ending >= 0 {
		cost += h.Lexicon.Endings[w.Form.Ending].Weight
	}
	for _, c := range w.Form.Clitics {
		cost += h.Lexicon.Clitics[c].Weight
	}
	byKind := []int{0, h.Costs.Spell, h.Costs.Stand, h.Costs.Repeat, h.Costs.Close}
	closed := false
	for _, u := range w.Uses {
		cost += byKind[u.Kind]
		closed = closed || u.Kind == api.Closes
	}
	if entry.Class != "" && !closed {
		cost += h.Costs.Open
	}
	return cost
}

// formsBySounds are all forms of a lexicon, by their sounds.
func formsBySounds(x api.Lexicon) map[string][]api.Form {
	all := map[string][]api.Form{}
	for entry := range x.Entries {
		forms, e := lexicon.Forms(x, entry)
		if e != api.OK {
			panic(e)
		}
		for _, f := range forms {
			s := strings.Join(partsOf(x, f), "")
			all[s] = append(all[s], f)
		}
	}
	return all
}

// saidBy are the sounds that uses spell.
func saidBy(uses []api.Use) string {
	said := ""
	for _, u := range uses {
		if u.Kind == api.Spells || u.Kind == api.Stands {
			said += u.Text
		}
	}
	return said
}

// allUses are all lists of uses that the signs of a line can have.
func allUses(h api.House, line []int) [][]api.Use {
	all := [][]api.Use{nil}
	for _, sign := range line {
		var longer [][]api.Use
		for _, l := range all {
			for _, u := range usesOf(h, sign) {
				longer = append(longer, append(slices.Clone(l), u))
			}
		}
		all = longer
	}
	return all
}

// edgesOf are all words from each place of a line on, in order.
func edgesOf(h api.House, line []int) [][]api.Edge {
	forms := formsBySounds(h.Lexicon)
	all := make([][]api.Edge, len(line)+1)
	for at := range line {
		for to := at + 1; to <= min(len(line), at+12); to++ {
			for _, uses := range allUses(h, line[at:to]) {
				for _, f := range forms[saidBy(uses)] {
					if w := (api.Spelled{Form: f, Uses: uses}); obeys(h.Lexicon, w) {
						all[at] = append(all[at], api.Edge{From: at, To: to, Cost: costOf(h, w), Word: w})
					}
				}
			}
		}
		slices.SortFunc(all[at], func(a, b api.Edge) int { return compareWords(a.Word, b.Word) })
	}
	return all
}

func compareWords(a, b api.Spelled) int {
	return cmp.Or(len(a.Uses)-len(b.Uses), a.Form.Entry-b.Form.Entry, a.Form.Ending-b.Form.Ending, slices.Compare(a.Form.Clitics, b.Form.Clitics), slices.CompareFunc(a.Uses, b.Uses, compareUses))
}

func compareReadings(a, b api.Reading) int {
	return cmp.Or(a.Cost-b.Cost, slices.CompareFunc(a.Words, b.Words, compareWords))
}

// readingsOf are all readings of a line from a place on, in order; edges are the
// words from each place on.
func readingsOf(edges [][]api.Edge, at int) []api.Reading {
	if at == len(edges)-1 {
		return []api.Reading{{}}
	}
	var all []api.Reading
	for _, d := range edges[at] {
		for _, r := range readingsOf(edges, d.To) {
			all = append(all, api.Reading{Words: append([]api.Spelled{d.Word}, r.Words...), Cost: d.Cost + r.Cost})
		}
	}
	slices.SortFunc(all, compareReadings)
	return all
}

// edgesIn are the edges of a reading.
func edgesIn(h api.House, r api.Reading) []api.Edge {
	var all []api.Edge
	at := 0
	for _, w := range r.Words {
		all = append(all, api.Edge{From: at, To: at + len(w.Uses), Cost: costOf(h, w), Word: w})
		at += len(w.Uses)
	}
	return all
}
