package lexicon

import (
	"slices"
	"strconv"
	"strings"

	"ostracon/api"
)

// Gloss returns a form as text.
func Gloss(x api.Lexicon, f api.Form) (string, api.Errno) {
	if e := CheckForm(x, f); e != api.OK {
		return "", e
	}
	gloss := glossEntry(x.Entries[f.Entry])
	if f.Ending != noEnding {
		gloss += "-" + x.Endings[f.Ending].Name
	}
	for _, c := range f.Clitics {
		gloss += "=" + x.Clitics[c].Name
	}
	return gloss, api.OK
}

func glossEntry(w api.Entry) string {
	gloss := w.Root + "/" + strconv.Itoa(w.Kind)
	if w.Class != "" {
		gloss += "/" + w.Class
	}
	return gloss
}

// ParseGloss reads a form from text.
func ParseGloss(x api.Lexicon, s string) (api.Form, api.Errno) {
	if e := Check(x); e != api.OK {
		return api.Form{}, e
	}
	f, ok := parseGloss(x, s)
	if !ok {
		return api.Form{}, api.ErrForm
	}
	return f, api.OK
}

// parseGloss finds the entry, the ending and the clitics that a gloss names.
func parseGloss(x api.Lexicon, s string) (f api.Form, ok bool) {
	names := strings.Split(s, "=")
	word, name, ended := strings.Cut(names[0], "-")
	f = api.Form{Entry: findEntry(x, word), Ending: noEnding}
	if f.Entry < 0 {
		return api.Form{}, false
	}
	if ended {
		f.Ending = findEnding(x, x.Entries[f.Entry].Kind, name)
		if f.Ending < 0 {
			return api.Form{}, false
		}
	}
	for _, name := range names[1:] {
		f.Clitics = append(f.Clitics, findClitic(x, name))
	}
	if checkForm(x, f) != api.OK {
		return api.Form{}, false
	}
	return f, true
}

func findEntry(x api.Lexicon, gloss string) int {
	return slices.IndexFunc(x.Entries, func(w api.Entry) bool { return glossEntry(w) == gloss })
}

func findEnding(x api.Lexicon, kind int, name string) int {
	return slices.IndexFunc(x.Endings, func(n api.Ending) bool { return n.Kind == kind && n.Name == name })
}

func findClitic(x api.Lexicon, name string) int {
	return slices.IndexFunc(x.Clitics, func(c api.Clitic) bool { return c.Name == name })
}
