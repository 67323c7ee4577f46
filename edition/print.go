package edition

import (
	"strconv"
	"strings"

	"ostracon/api"
	"ostracon/code"
	"ostracon/grid"
	"ostracon/groups"
	"ostracon/signs"
)

// sheet is the lines that have been printed.
type sheet []string

// print puts a line behind the others.
func (s *sheet) print(parts ...string) {
	*s = append(*s, strings.Join(parts, ""))
}

// text returns all lines as one text.
func (s sheet) text() string {
	var out strings.Builder
	for _, line := range s {
		out.WriteString(line + "\n")
	}
	return out.String()
}

// frame is what stands around the word of a sign.
type frame struct {
	open, close string
}

// frames has the frame of each state.
var frames = [...]frame{
	api.Damaged: {"(", ")"},
	api.Hatched: {"<", ">"},
	api.Usurped: {"{", "}"},
}

// vocabulary has the word of each sign where it is whole.
type vocabulary []string

func vocabularyOf(l api.List, period int) vocabulary {
	var words vocabulary
	for sign := range l.Signs {
		words = append(words, nameOf(l, sign, period))
	}
	return words
}

// nameOf returns the name of a sign for its first sound in a period, or its code.
func nameOf(l api.List, sign, period int) string {
	values, _ := signs.Values(l, sign, period)
	for _, v := range values {
		if v.Kind == api.Sound {
			name, _ := signs.Name(l, sign, v.Text, period)
			return name
		}
	}
	return l.Signs[sign].Code
}

// word returns the word of a mark.
func (words vocabulary) word(m api.Mark) string {
	if isGap(m) {
		return "[" + strconv.Itoa(m.Min) + "-" + strconv.Itoa(m.Max) + "]"
	}
	f := frames[m.State]
	return f.open + words[m.Sign] + f.close
}

// all returns the words of marks.
func (words vocabulary) all(marks []api.Mark) []string {
	var list []string
	for _, m := range marks {
		list = append(list, words.word(m))
	}
	return list
}

// Concord returns the places of a sign with what stands around it.
func Concord(v api.Volume, sign, wide, period int) ([]string, api.Errno) {
	if e := checkSign(v, sign); e != api.OK {
		return nil, e
	}
	if wide < 0 || wide > api.MaxContext {
		return nil, api.ErrArg
	}
	if !hasPeriod(v, period) {
		return nil, api.ErrPeriod
	}
	words := vocabularyOf(v.List, period)
	lines := linesOf(v)
	var s sheet
	for _, p := range placesOf(lines, sign) {
		line := lines[p.Item]
		before := line[max(0, p.At-wide):p.At]
		behind := line[p.At+1 : min(len(line), p.At+1+wide)]
		around := words.all(before)
		around = append(around, "*"+words.word(line[p.At])+"*")
		around = append(around, words.all(behind)...)
		s.print(v.Items[p.Item].Title, ":", strconv.Itoa(p.At), " ", strings.Join(around, " "))
	}
	return s, api.OK
}

// Print returns the lines of an item.
func Print(v api.Volume, item int, p api.Page, period int) ([]string, api.Errno) {
	if e := Check(v); e != api.OK {
		return nil, e
	}
	if !hasItem(v, item) {
		return nil, api.ErrArg
	}
	if e := grid.Check(p); e != api.OK {
		return nil, e
	}
	if !hasPeriod(v, period) {
		return nil, api.ErrPeriod
	}
	words := vocabularyOf(v.List, period)
	var s sheet
	for i, part := range partsOf(v.List, v.Items[item].Text, p) {
		text, _ := code.Write(code.Line, v.List, part)
		marks, _ := groups.Line(v.List, part)
		s.print(strconv.Itoa(i+1), " ", text, "  ", strings.Join(words.all(marks), "-"))
	}
	return s, api.OK
}

// partsOf returns the groups of each line of a valid text as a text of their own.
func partsOf(l api.List, t api.Text, p api.Page) []api.Text {
	lines, _ := grid.Lines(l, t, p)
	starts, _ := groups.Groups(l, t)
	var parts []api.Text
	for i, line := range lines {
		end := len(t.Nodes)
		if i+1 < len(lines) {
			end = starts[lines[i+1][0]]
		}
		parts = append(parts, api.Text{Nodes: t.Nodes[starts[line[0]]:end]})
	}
	return parts
}
