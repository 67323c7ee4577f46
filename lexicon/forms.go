package lexicon

import (
	"cmp"
	"iter"
	"slices"
	"strings"

	"ostracon/api"
)

// part is one of the two parts of a form: its stem, or its tail, which is all
// of its clitics, possibly none.
type part struct {
	form   api.Form // of a stem without clitics, of a tail with nothing but these
	sounds string
	weight int
}

func stemOf(x api.Lexicon, entry, ending int) part {
	w := x.Entries[entry]
	p := part{api.Form{Entry: entry, Ending: ending}, w.Root, w.Weight}
	if ending != noEnding {
		p.sounds += x.Endings[ending].Text
		p.weight += x.Endings[ending].Weight
	}
	return p
}

func tailOf(x api.Lexicon, clitics []int) part {
	p := part{form: api.Form{Clitics: clitics}}
	for _, c := range clitics {
		p.sounds += x.Clitics[c].Text
		p.weight += x.Clitics[c].Weight
	}
	return p
}

// stemsOf returns the stems of an entry, in the order of forms.
func stemsOf(x api.Lexicon, entry int) []part {
	stems := []part{stemOf(x, entry, noEnding)}
	for ending := range x.Endings {
		if takes(x, entry, ending) {
			stems = append(stems, stemOf(x, entry, ending))
		}
	}
	return stems
}

// allStems returns the stems of all entries, in the order of forms.
func allStems(x api.Lexicon) []part {
	var stems []part
	for entry := range x.Entries {
		stems = append(stems, stemsOf(x, entry)...)
	}
	return stems
}

// tailsOf returns the tails that each stem can have, in the order of forms.
func tailsOf(x api.Lexicon) []part {
	var tails []part
	var extend func(clitics []int, next int)
	extend = func(clitics []int, next int) {
		tails = append(tails, tailOf(x, clitics))
		if len(clitics) == api.MaxLean {
			return
		}
		for c := next; c < len(x.Clitics); c++ {
			extend(append(slices.Clone(clitics), c), c+1)
		}
	}
	extend(nil, 0)
	return tails
}

// join returns the form that has a stem and a tail. Many forms have the same
// tail, so each gets clitics of its own.
func join(stem, tail part) api.Form {
	f := stem.form
	f.Clitics = slices.Clone(tail.form.Clitics)
	return f
}

// compareForms is the order of forms.
func compareForms(a, b api.Form) int {
	if a.Entry != b.Entry {
		return cmp.Compare(a.Entry, b.Entry)
	}
	if a.Ending != b.Ending {
		return cmp.Compare(a.Ending, b.Ending)
	}
	return slices.Compare(a.Clitics, b.Clitics)
}

// formsOf goes through the forms of an entry, in order.
func formsOf(x api.Lexicon, entry int) iter.Seq[api.Form] {
	return func(yield func(api.Form) bool) {
		tails := tailsOf(x)
		for _, stem := range stemsOf(x, entry) {
			for _, tail := range tails {
				if !yield(join(stem, tail)) {
					return
				}
			}
		}
	}
}

// spoken goes through the stems and tails of all forms with given sounds, in order.
func spoken(x api.Lexicon, s string) iter.Seq2[part, part] {
	return func(yield func(stem, tail part) bool) {
		tails := tailsOf(x)
		for stem := range opening(allStems(x), s) {
			for _, tail := range tails {
				if tail.sounds == s[len(stem.sounds):] && !yield(stem, tail) {
					return
				}
			}
		}
	}
}

// opening goes through those of some parts with which a line of sounds begins.
func opening(parts []part, s string) iter.Seq[part] {
	return func(yield func(part) bool) {
		for _, p := range parts {
			if strings.HasPrefix(s, p.sounds) && !yield(p) {
				return
			}
		}
	}
}
