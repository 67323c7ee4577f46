package induce

import (
	"cmp"
	"maps"
	"slices"

	"ostracon/api"
	"ostracon/signs"
)

// mostStretch is how many signs can spell the root of a proposed entry.
const mostStretch = 4

// Propose returns the entries that a corpus suggests.
func Propose(l api.List, period int, corpus [][]int) ([]api.Entry, api.Errno) {
	now, e := signs.Restrict(l, period)
	if e != api.OK {
		return nil, e
	}
	if e := checkLines(now, corpus); e != api.OK {
		return nil, e
	}
	p := proposer{now, map[api.Entry]bool{}}
	for _, line := range corpus {
		for at := range line {
			p.propose(line[:at], line[at])
			if len(p.proposed) > api.MaxWords {
				return nil, api.ErrMany
			}
		}
	}
	return slices.SortedFunc(maps.Keys(p.proposed), compareEntries), api.OK
}

func checkLines(l api.List, lines [][]int) api.Errno {
	if len(lines) > api.MaxCorpus {
		return api.ErrMany
	}
	for _, line := range lines {
		if len(line) > api.MaxLine {
			return api.ErrMany
		}
		for _, sign := range line {
			if sign < 0 || sign >= len(l.Signs) {
				return api.ErrSign
			}
		}
	}
	return api.OK
}

// compareEntries is the order of proposed entries.
func compareEntries(a, b api.Entry) int {
	return cmp.Or(cmp.Compare(a.Root, b.Root), cmp.Compare(a.Class, b.Class))
}

// proposer proposes entries.
type proposer struct {
	list     api.List // of one period
	proposed map[api.Entry]bool
}

// propose proposes the entries that a sign closes behind others.
func (p proposer) propose(before []int, sign int) {
	for _, class := range p.texts(sign, api.Class) {
		for _, root := range p.roots(before) {
			p.proposed[api.Entry{Root: root, Kind: 1, Class: class, Weight: 1}] = true
		}
	}
}

// texts returns what a sign can stand for.
func (p proposer) texts(sign, kind int) []string {
	var texts []string
	for _, v := range p.list.Signs[sign].Values {
		if v.Kind == kind {
			texts = append(texts, v.Text)
		}
	}
	return texts
}

// roots returns what the last signs of a line spell.
func (p proposer) roots(line []int) []string {
	var roots []string
	spelled := []string{""}
	for n := range min(len(line), mostStretch) {
		var longer []string
		for _, text := range p.texts(line[len(line)-1-n], api.Sound) {
			for _, rest := range spelled {
				if len(text)+len(rest) <= api.MaxSounds {
					longer = append(longer, text+rest)
				}
			}
		}
		roots = append(roots, longer...)
		spelled = longer
	}
	return roots
}
