package code_test

import (
	"strings"

	"ostracon/code"
)

// grammar has the alternatives of each name. An alternative is a row of words:
// names, or bytes as they stand; SPACE, CAPITAL, MORE, DIGIT and TURN stand for
// one byte.
type grammar map[string][][]string

// put sets the alternatives of a name.
func (g grammar) put(name string, alternatives ...string) {
	for _, a := range alternatives {
		g[name] = append(g[name], strings.Fields(a))
	}
}

const (
	space   = " "
	capital = "ABCDEFGHIJKLMNOPQRSTUVWXYZ"
	digits  = "0123456789"
	more    = capital + "abcdefghijklmnopqrstuvwxyz" + digits
	turns   = "123"
)

// bytesOf are the bytes that a word of an alternative stands for, if it is no name.
func bytesOf(word string) string {
	switch word {
	case "SPACE":
		return space
	case "CAPITAL":
		return capital
	case "MORE":
		return more
	case "DIGIT":
		return digits
	case "TURN":
		return turns
	}
	return word
}

// grammarOf is the grammar of a code, as the document has it, but with what it
// says of parentheses as part of the grammar.
func grammarOf(kind int) grammar {
	g := grammar{}
	g.put("code", "CAPITAL", "CAPITAL c7")
	g.put("c7", "MORE", "MORE c6")
	g.put("c6", "MORE", "MORE c5")
	g.put("c5", "MORE", "MORE c4")
	g.put("c4", "MORE", "MORE c3")
	g.put("c3", "MORE", "MORE c2")
	g.put("c2", "MORE", "MORE c1")
	g.put("c1", "MORE")
	g.put("whole", "code", "code \\", "code / TURN", "code \\ / TURN")
	if kind == code.Tree {
		g.put("text", "", "items")
		g.put("items", "item", "item SPACE items")
		g.put("item", "whole", "lost", "( word SPACE items )")
		g.put("word", "b e s i d e", "a b o v e", "o v e r", "r i n g", "h o n o u r")
		g.put("lost", "?", "? lost")
		return g
	}
	g.put("text", "", "groups")
	g.put("groups", "group", "group - groups")
	g.put("group", "ring", "part")
	g.put("ring", "< parts >")
	g.put("parts", "part", "part - parts")
	g.put("part", "honour", "above")
	g.put("honour", "[ stacks ]")
	g.put("stacks", "above", "above ; stacks")
	g.put("above", "beside", "beside : above")
	g.put("beside", "plain", "item * row")
	g.put("row", "item", "item * row")
	g.put("item", "plain", "( beside : above )")
	g.put("plain", "leaf", "leaf & leaf")
	g.put("leaf", "glyph", "{ DIGIT - DIGIT }")
	g.put("glyph", "whole", "whole #", "whole =", "whole !")
	return g
}

// progress is how far an alternative has come that began at a byte.
type progress struct {
	name        string
	alternative int
	done, from  int
}

// chart tells, after Earley, how all alternatives have come along at each byte
// of a text. Its last set is empty if no text of the grammar begins like this.
type chart struct {
	g    grammar
	sets [][]progress
}

// awaits is the word that comes next in an alternative, and nothing if it is through.
func (c chart) awaits(p progress) string {
	words := c.g[p.name][p.alternative]
	if p.done == len(words) {
		return ""
	}
	return words[p.done]
}

func newChart(kind int) chart {
	c := chart{g: grammarOf(kind)}
	var first []progress
	for i := range c.g["text"] {
		first = append(first, progress{name: "text", alternative: i})
	}
	return c.with(first)
}

// with returns the chart with one set more, which begins with some progress.
func (c chart) with(set []progress) chart {
	seen := map[progress]bool{}
	for _, p := range set {
		seen[p] = true
	}
	at := len(c.sets)
	for i := 0; i < len(set); i++ {
		for _, p := range c.follow(set[i], at) {
			if !seen[p] {
				seen[p] = true
				set = append(set, p)
			}
		}
	}
	return chart{c.g, append(c.sets[:at:at], set)}
}

// follow returns what begins or comes along because of a progress at a byte.
func (c chart) follow(p progress, at int) []progress {
	var found []progress
	if name := c.awaits(p); name != "" {
		for i := range c.g[name] {
			found = append(found, progress{name, i, 0, at})
		}
	} else if p.from < at {
		for _, q := range c.sets[p.from] {
			if c.awaits(q) == p.name {
				q.done++
				found = append(found, q)
			}
		}
	}
	return found
}

// next returns the chart with one byte more.
func (c chart) next(b byte) chart {
	var set []progress
	for _, p := range c.sets[len(c.sets)-1] {
		if word := c.awaits(p); c.g[word] == nil && strings.IndexByte(bytesOf(word), b) >= 0 {
			p.done++
			set = append(set, p)
		}
	}
	return c.with(set)
}

// begins reports whether some text begins like this.
func (c chart) begins() bool {
	return len(c.sets[len(c.sets)-1]) > 0
}

// isText reports whether this is a text.
func (c chart) isText() bool {
	for _, p := range c.sets[len(c.sets)-1] {
		if p.name == "text" && c.awaits(p) == "" {
			return true
		}
	}
	return false
}

// after returns the chart with more bytes, or, from the first one on with which
// no text goes on, how many bytes were right.
func (c chart) after(s string) (all chart, right int) {
	for i := range len(s) {
		c = c.next(s[i])
		if !c.begins() {
			return c, i
		}
	}
	return c, len(s)
}

// judge returns whether s is a text by the grammar of a code, and how long its
// longest beginning is that some text has.
func judge(kind int, s string) (is bool, longest int) {
	c, longest := newChart(kind).after(s)
	return c.isText(), longest
}

// sentence returns a text of a grammar, which need not be valid.
func (d *dice) sentence(g grammar, name string, steps *int) string {
	if g[name] == nil {
		bytes := bytesOf(name)
		return string(bytes[d.below(len(bytes))])
	}
	alternatives := g[name]
	if name == "code" && d.below(50) > 0 {
		return pick(d, []string{"A1", "B2", "C3", "Sign0123", "E"})
	}
	if *steps--; *steps < 0 {
		alternatives = alternatives[:1]
	}
	var out strings.Builder
	for _, word := range pick(d, alternatives) {
		out.WriteString(d.sentence(g, word, steps))
	}
	return out.String()
}

// someSentence returns a text of the grammar of a code.
func (d *dice) someSentence(kind int) string {
	steps := d.below(200)
	return d.sentence(grammarOf(kind), "text", &steps)
}

// spoil returns s with a byte more, less or changed.
func (d *dice) spoil(s string) string {
	const all = "A1\\/1#=!{-}&*:()<>[]; ?beside\n\x00\xffz"
	at := d.below(len(s) + 1)
	with := string(all[d.below(len(all))])
	switch d.below(3) {
	case 0:
		return s[:at] + with + s[at:]
	case 1:
		return s[:at] + with + s[min(at+1, len(s)):]
	}
	return s[:at] + s[min(at+1, len(s)):]
}
