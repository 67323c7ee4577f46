package read

import (
	"strings"

	"ostracon/api"
	"ostracon/grammar"
	"ostracon/lexicon"
)

// Text returns words as text.
func Text(h api.House, words []api.Spelled) (string, api.Errno) {
	if e := checkWords(h, words); e != api.OK {
		return "", e
	}
	texts := make([]string, len(words))
	for i, w := range words {
		texts[i] = formText(h.Lexicon, w.Form)
	}
	return strings.Join(texts, " "), api.OK
}

// formText returns a form as text, its parts with the marks between them.
func formText(x api.Lexicon, f api.Form) string {
	text := x.Entries[f.Entry].Root
	if f.Ending != grammar.NoEnding {
		text += "." + x.Endings[f.Ending].Text
	}
	for _, c := range f.Clitics {
		text += "=" + x.Clitics[c].Text
	}
	return text
}

// Sounds returns the sounds of words.
func Sounds(h api.House, words []api.Spelled) (string, api.Errno) {
	if e := checkWords(h, words); e != api.OK {
		return "", e
	}
	var sounds strings.Builder
	for _, w := range words {
		sounds.WriteString(grammar.WordingOf(h.Lexicon, w.Form).Sounds)
	}
	return sounds.String(), api.OK
}

// checkWords returns the first error of a house and of the forms of words.
func checkWords(h api.House, words []api.Spelled) api.Errno {
	if e := CheckHouse(h); e != api.OK {
		return e
	}
	if len(words) > api.MaxLine {
		return api.ErrMany
	}
	for _, w := range words {
		if e := lexicon.CheckForm(h.Lexicon, w.Form); e != api.OK {
			return e
		}
	}
	return api.OK
}
