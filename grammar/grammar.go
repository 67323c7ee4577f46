// Package grammar says how the signs of a word spell its form. Lines are read by
// it and words are written by it. See the grammar of shared/doc/06-read.md.
package grammar

import (
	"iter"
	"slices"
	"strings"

	"ostracon/api"
)

// NoEnding stands for the ending of a form that has none.
const NoEnding = -1

// UsesFor returns the uses that a sign has by one of its values.
func UsesFor(v api.Value) []api.Use {
	switch v.Kind {
	case api.Sound:
		return []api.Use{{Kind: api.Spells, Text: v.Text}, {Kind: api.Repeats, Text: v.Text}}
	case api.Word:
		return []api.Use{{Kind: api.Stands, Text: v.Text}}
	}
	return []api.Use{{Kind: api.Closes, Text: v.Text}}
}

// Echo returns the sounds of a use that one right behind it can repeat.
func Echo(u api.Use) string {
	if u.Kind == api.Stands || u.Kind == api.Spells && len(u.Text) > 1 {
		return u.Text
	}
	return ""
}

// Wording is a form as it has to be spelled.
type Wording struct {
	Form        api.Form
	Root, Class string
	Sounds      string
	ends        []int // where in the sounds the body ends, and each of the clitics
	Weight      int
}

// WordingOf returns the wording of a form of a valid lexicon. It asks nothing
// of package lexicon, which examines the whole lexicon each time: there are far
// more forms than can be looked at in this way.
func WordingOf(x api.Lexicon, f api.Form) Wording {
	entry := x.Entries[f.Entry]
	w := Wording{Form: f, Root: entry.Root, Class: entry.Class, Sounds: entry.Root, Weight: entry.Weight}
	if f.Ending != NoEnding {
		w.Sounds += x.Endings[f.Ending].Text
		w.Weight += x.Endings[f.Ending].Weight
	}
	w.ends = append(w.ends, len(w.Sounds))
	for _, c := range f.Clitics {
		w.Sounds += x.Clitics[c].Text
		w.Weight += x.Clitics[c].Weight
		w.ends = append(w.ends, len(w.Sounds))
	}
	return w
}

// Body returns how many sounds the body has.
func (w Wording) Body() int { return w.ends[0] }

// Rest returns what is still to be spelled of the part whose sounds are next.
func (w Wording) Rest(spelled int) string {
	for _, end := range w.ends {
		if spelled < end {
			return w.Sounds[spelled:end]
		}
	}
	return ""
}

// Progress is how far a wording is spelled by the first uses of a word.
type Progress struct {
	Spelled int    // how many sounds
	Echo    string // what the next use can repeat the end of, empty if it cannot
	Closed  bool
}

// Take returns the progress behind one more use, if the grammar allows it. The
// use has a text: no value of a sign is without one.
func (w Wording) Take(p Progress, u api.Use) (next Progress, ok bool) {
	next = Progress{p.Spelled, Echo(u), p.Closed}
	switch u.Kind {
	case api.Spells:
		ok = strings.HasPrefix(w.Rest(p.Spelled), u.Text)
		next.Spelled += len(u.Text)
	case api.Stands:
		ok = p.Spelled == 0 && u.Text == w.Root // whatever comes first spells something
		next.Spelled = len(w.Root)
	case api.Repeats:
		ok = strings.HasSuffix(p.Echo, u.Text)
	case api.Closes:
		ok = p.Spelled == w.Body() && !p.Closed && u.Text == w.Class
		next.Closed = true
	}
	return next, ok
}

// Follow goes through the uses that the grammar allows next, each with the
// progress behind it.
func (w Wording) Follow(p Progress) iter.Seq2[api.Use, Progress] {
	return func(yield func(api.Use, Progress) bool) {
		for _, u := range w.candidates(p) {
			if next, ok := w.Take(p, u); ok && !yield(u, next) {
				return
			}
		}
	}
}

// candidates returns uses among which are all that the grammar allows next.
func (w Wording) candidates(p Progress) []api.Use {
	all := []api.Use{{Kind: api.Stands, Text: w.Root}}
	rest := w.Rest(p.Spelled)
	for n := 1; n <= min(len(rest), api.MaxSounds); n++ {
		all = append(all, api.Use{Kind: api.Spells, Text: rest[:n]})
	}
	for i := range len(p.Echo) {
		all = append(all, api.Use{Kind: api.Repeats, Text: p.Echo[i:]})
	}
	if w.Class != "" {
		all = append(all, api.Use{Kind: api.Closes, Text: w.Class})
	}
	return all
}

// Complete reports whether all sounds are spelled.
func (w Wording) Complete(p Progress) bool { return p.Spelled == len(w.Sounds) }

// SpelledBy reports whether signs, given the uses that each of them has, spell
// the word by some of these uses.
func (w Wording) SpelledBy(signs [][]api.Use, uses []api.Use) bool {
	if len(uses) > api.MaxUses || len(uses) != len(signs) {
		return false
	}
	var p Progress
	for i, u := range uses {
		if !slices.Contains(signs[i], u) {
			return false
		}
		next, ok := w.Take(p, u)
		if !ok {
			return false
		}
		p = next
	}
	return w.Complete(p)
}

// Cost returns the cost of the word with some uses.
func (w Wording) Cost(c api.Costs, uses []api.Use) int {
	cost, closed := w.Weight, false
	for _, u := range uses {
		cost += UseCost(c, u)
		closed = closed || u.Kind == api.Closes
	}
	return cost + w.OpenCost(c, closed)
}

// UseCost returns what a use costs.
func UseCost(c api.Costs, u api.Use) int {
	switch u.Kind {
	case api.Spells:
		return c.Spell
	case api.Stands:
		return c.Stand
	case api.Repeats:
		return c.Repeat
	}
	return c.Close
}

// OpenCost returns what it costs that the word is not closed, nothing if it is
// or cannot be.
func (w Wording) OpenCost(c api.Costs, closed bool) int {
	if closed || w.Class == "" {
		return 0
	}
	return c.Open
}
