package lexicon

import (
	"slices"
	"strconv"
	"strings"

	"ostracon/api"
)

// noClass stands in a text for the class of an entry that has none.
const noClass = "-"

// Format returns a lexicon as text.
func Format(x api.Lexicon) (string, api.Errno) {
	if e := Check(x); e != api.OK {
		return "", e
	}
	var out strings.Builder
	for _, w := range x.Entries {
		class := w.Class
		if class == "" {
			class = noClass
		}
		out.WriteString(lineOf("word", w.Root, strconv.Itoa(w.Kind), class, strconv.Itoa(w.Weight)))
	}
	for _, n := range x.Endings {
		out.WriteString(lineOf("ending", strconv.Itoa(n.Kind), n.Text, n.Name, strconv.Itoa(n.Weight)))
	}
	for _, c := range x.Clitics {
		out.WriteString(lineOf("clitic", c.Text, c.Name, strconv.Itoa(c.Weight)))
	}
	return out.String(), api.OK
}

func lineOf(words ...string) string {
	return strings.Join(words, " ") + "\n"
}

// Parse reads a lexicon from text.
func Parse(s string) (x api.Lexicon, line int, e api.Errno) {
	if len(s) > api.MaxText {
		return api.Lexicon{}, 0, api.ErrMany
	}
	x, line = parseLines(s)
	if line > 0 {
		return api.Lexicon{}, line, api.ErrForm
	}
	if e := Check(x); e != api.OK {
		return api.Lexicon{}, 0, e
	}
	return x, 0, api.OK
}

// parseLines reads a lexicon that need not be valid; bad is the number of the
// first line that does not have its form, and 0 if all have.
func parseLines(s string) (x api.Lexicon, bad int) {
	for number := 1; s != ""; number++ {
		line, rest, ended := strings.Cut(s, "\n")
		if !ended || !parseLine(&x, line) {
			return api.Lexicon{}, number
		}
		s = rest
	}
	return x, 0
}

// parseLine puts what a line says behind what a lexicon has. It reports whether
// the line has its form and may stand there.
func parseLine(x *api.Lexicon, line string) bool {
	words := strings.Split(line, " ")
	if slices.Contains(words, "") {
		return false
	}
	switch words[0] {
	case "word":
		w, ok := parseEntry(words[1:])
		x.Entries = append(x.Entries, w)
		return ok && len(x.Endings) == 0 && len(x.Clitics) == 0
	case "ending":
		n, ok := parseEnding(words[1:])
		x.Endings = append(x.Endings, n)
		return ok && len(x.Clitics) == 0
	case "clitic":
		c, ok := parseClitic(words[1:])
		x.Clitics = append(x.Clitics, c)
		return ok
	}
	return false
}

func parseEntry(words []string) (w api.Entry, ok bool) {
	if len(words) != 4 {
		return api.Entry{}, false
	}
	w = api.Entry{Root: words[0], Class: words[2]}
	if w.Class == noClass {
		w.Class = ""
	}
	w.Kind, w.Weight, ok = parseNumbers(words[1], words[3])
	return w, ok
}

func parseEnding(words []string) (n api.Ending, ok bool) {
	if len(words) != 4 {
		return api.Ending{}, false
	}
	n = api.Ending{Text: words[1], Name: words[2]}
	n.Kind, n.Weight, ok = parseNumbers(words[0], words[3])
	return n, ok
}

func parseClitic(words []string) (c api.Clitic, ok bool) {
	if len(words) != 3 {
		return api.Clitic{}, false
	}
	c = api.Clitic{Text: words[0], Name: words[1]}
	c.Weight, ok = parseNumber(words[2])
	return c, ok
}

func parseNumbers(a, b string) (first, second int, ok bool) {
	first, ok = parseNumber(a)
	if !ok {
		return 0, 0, false
	}
	second, ok = parseNumber(b)
	return first, second, ok
}

// parseNumber reads a number of one to four digits without a leading zero.
func parseNumber(s string) (n int, ok bool) {
	if !within(len(s), 4) || s[0] == '0' && s != "0" {
		return 0, false
	}
	for i := range len(s) {
		if s[i] < '0' || s[i] > '9' {
			return 0, false
		}
		n = n*10 + int(s[i]-'0')
	}
	return n, true
}
