package lexicon

import "ostracon/api"

// noEnding stands for the ending of a form that has none.
const noEnding = -1

// Check returns the first error of a lexicon.
func Check(x api.Lexicon) api.Errno {
	if len(x.Entries) > api.MaxWords || len(x.Endings) > api.MaxEndings || len(x.Clitics) > api.MaxClitics {
		return api.ErrMany
	}
	if !entriesValid(x.Entries) {
		return api.ErrWord
	}
	if !endingsValid(x.Endings) {
		return api.ErrEnding
	}
	if !cliticsValid(x.Clitics) {
		return api.ErrClitic
	}
	return api.OK
}

func entriesValid(entries []api.Entry) bool {
	type identity struct {
		root  string
		kind  int
		class string
	}
	seen := make(map[identity]bool, len(entries))
	for _, w := range entries {
		if !isSounds(w.Root, api.MaxSounds) || !isKind(w.Kind) || w.Class != "" && !isName(w.Class) || !isWeight(w.Weight) {
			return false
		}
		id := identity{w.Root, w.Kind, w.Class}
		if seen[id] {
			return false
		}
		seen[id] = true
	}
	return true
}

func endingsValid(endings []api.Ending) bool {
	type identity struct {
		kind int
		name string
	}
	seen := make(map[identity]bool, len(endings))
	for _, n := range endings {
		id := identity{n.Kind, n.Name}
		if !isKind(n.Kind) || !leans(n.Text, n.Name, n.Weight) || seen[id] {
			return false
		}
		seen[id] = true
	}
	return true
}

func cliticsValid(clitics []api.Clitic) bool {
	seen := make(map[string]bool, len(clitics))
	for _, c := range clitics {
		if !leans(c.Text, c.Name, c.Weight) || seen[c.Name] {
			return false
		}
		seen[c.Name] = true
	}
	return true
}

// leans reports whether an ending or a clitic may have these.
func leans(text, name string, weight int) bool {
	return isSounds(text, api.MaxTail) && isName(name) && isWeight(weight)
}

// CheckForm returns the first error of a form.
func CheckForm(x api.Lexicon, f api.Form) api.Errno {
	if e := Check(x); e != api.OK {
		return e
	}
	return checkForm(x, f)
}

// checkForm returns the first error of a form of a valid lexicon.
func checkForm(x api.Lexicon, f api.Form) api.Errno {
	if !isIndex(f.Entry, len(x.Entries)) {
		return api.ErrWord
	}
	if f.Ending != noEnding && !takes(x, f.Entry, f.Ending) {
		return api.ErrEnding
	}
	if len(f.Clitics) > api.MaxLean {
		return api.ErrClitic
	}
	before := -1
	for _, c := range f.Clitics {
		if c <= before || c >= len(x.Clitics) {
			return api.ErrClitic
		}
		before = c
	}
	return api.OK
}

// takes reports whether there is an ending of this number, and of the kind of an entry.
func takes(x api.Lexicon, entry, ending int) bool {
	return isIndex(ending, len(x.Endings)) && x.Endings[ending].Kind == x.Entries[entry].Kind
}

func isIndex(i, length int) bool {
	return 0 <= i && i < length
}

func isKind(kind int) bool {
	return within(kind, api.MaxKinds)
}

func isWeight(weight int) bool {
	return 0 <= weight && weight <= api.MaxCost
}

// isSounds reports whether a text has from 1 to most bytes, all of which are sounds.
func isSounds(text string, most int) bool {
	if !within(len(text), most) {
		return false
	}
	for _, r := range text {
		if !isSmall(r) && (r < 'A' || r > 'Z') {
			return false
		}
	}
	return true
}

func isName(text string) bool {
	if !within(len(text), api.MaxName) {
		return false
	}
	for _, r := range text {
		if !isSmall(r) {
			return false
		}
	}
	return true
}

func isSmall(r rune) bool {
	return 'a' <= r && r <= 'z'
}

// within reports whether n is from 1 to most.
func within(n, most int) bool {
	return 1 <= n && n <= most
}
