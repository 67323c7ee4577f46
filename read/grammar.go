package read

import (
	"slices"
	"strings"

	"ostracon/api"
)

// noEnding stands for the ending of a form that has none.
const noEnding = -1

// wording is a form as it has to be spelled.
type wording struct {
	form        api.Form
	root, class string
	sounds      string
	ends        []int // where in the sounds the body ends, and each of the clitics
	weight      int
}

// wordingOf returns the wording of a form of a valid lexicon. It asks nothing
// of package lexicon, which examines the whole lexicon each time: there are far
// more forms than can be looked at in this way.
func wordingOf(x api.Lexicon, f api.Form) wording {
	entry := x.Entries[f.Entry]
	w := wording{form: f, root: entry.Root, class: entry.Class, sounds: entry.Root, weight: entry.Weight}
	if f.Ending != noEnding {
		w.sounds += x.Endings[f.Ending].Text
		w.weight += x.Endings[f.Ending].Weight
	}
	w.ends = append(w.ends, len(w.sounds))
	for _, c := range f.Clitics {
		w.sounds += x.Clitics[c].Text
		w.weight += x.Clitics[c].Weight
		w.ends = append(w.ends, len(w.sounds))
	}
	return w
}

// body returns how many sounds the body has.
func (w wording) body() int { return w.ends[0] }

// rest returns what is still to be spelled of the part whose sounds are next.
func (w wording) rest(spelled int) string {
	for _, end := range w.ends {
		if spelled < end {
			return w.sounds[spelled:end]
		}
	}
	return ""
}

// progress is how far a wording is spelled by the first uses of a word.
type progress struct {
	spelled int    // how many sounds
	echo    string // what the next use can repeat the end of, empty if it cannot
	closed  bool
}

// take returns the progress behind one more use, if the grammar allows it. The
// use has a text: no value of a sign is without one.
func (w wording) take(p progress, u api.Use) (next progress, ok bool) {
	next = progress{p.spelled, echo(u), p.closed}
	switch u.Kind {
	case api.Spells:
		ok = strings.HasPrefix(w.rest(p.spelled), u.Text)
		next.spelled += len(u.Text)
	case api.Stands:
		ok = p.spelled == 0 && u.Text == w.root // whatever comes first spells something
		next.spelled = len(w.root)
	case api.Repeats:
		ok = strings.HasSuffix(p.echo, u.Text)
	case api.Closes:
		ok = p.spelled == w.body() && !p.closed && u.Text == w.class
		next.closed = true
	}
	return next, ok
}

// echo returns the sounds of a use that one right behind it can repeat.
func echo(u api.Use) string {
	if u.Kind == api.Stands || u.Kind == api.Spells && len(u.Text) > 1 {
		return u.Text
	}
	return ""
}

func (w wording) complete(p progress) bool { return p.spelled == len(w.sounds) }

// spelledBy reports whether signs, given the uses that each of them has, spell
// the word by some of these uses.
func (w wording) spelledBy(signs [][]api.Use, uses []api.Use) bool {
	if len(uses) > api.MaxUses || len(uses) != len(signs) {
		return false
	}
	var p progress
	for i, u := range uses {
		if !slices.Contains(signs[i], u) {
			return false
		}
		next, ok := w.take(p, u)
		if !ok {
			return false
		}
		p = next
	}
	return w.complete(p)
}

// cost returns the cost of the word with some uses.
func (w wording) cost(c api.Costs, uses []api.Use) int {
	cost, open := w.weight, w.class != ""
	for _, u := range uses {
		switch u.Kind {
		case api.Spells:
			cost += c.Spell
		case api.Stands:
			cost += c.Stand
		case api.Repeats:
			cost += c.Repeat
		case api.Closes:
			cost += c.Close
			open = false
		}
	}
	if open {
		cost += c.Open
	}
	return cost
}
