package read

import (
	"cmp"
	"slices"

	"ostracon/api"
	"ostracon/grammar"
	"ostracon/lexicon"
	"ostracon/signs"
)

// CheckHouse returns an error unless a house is valid.
func CheckHouse(h api.House) api.Errno {
	if e := signs.Check(h.List); e != api.OK {
		return e
	}
	if e := lexicon.Check(h.Lexicon); e != api.OK {
		return e
	}
	if !costsValid(h.Costs) {
		return api.ErrCosts
	}
	if h.Period < 1 || h.Period > h.List.Periods {
		return api.ErrPeriod
	}
	return api.OK
}

func costsValid(c api.Costs) bool {
	for _, cost := range []int{c.Spell, c.Stand, c.Repeat, c.Close, c.Open} {
		if cost < 0 || cost > api.MaxCost {
			return false
		}
	}
	return true
}

// checkLine returns the first error of a house and of a line.
func checkLine(h api.House, line []int) api.Errno {
	if e := CheckHouse(h); e != api.OK {
		return e
	}
	if len(line) > api.MaxLine {
		return api.ErrMany
	}
	for _, sign := range line {
		if !isSign(h, sign) {
			return api.ErrSign
		}
	}
	return api.OK
}

func isSign(h api.House, sign int) bool {
	return 0 <= sign && sign < len(h.List.Signs)
}

// usesOf returns, for each sign of a line, the uses that it has in the period
// of a valid house, in order.
func usesOf(h api.House, line []int) [][]api.Use {
	// signs.Values would examine the whole list again for each sign.
	list, _ := signs.Restrict(h.List, h.Period)
	all := make([][]api.Use, len(line))
	for i, sign := range line {
		for _, v := range list.Signs[sign].Values {
			all[i] = append(all[i], grammar.UsesFor(v)...)
		}
		slices.SortFunc(all[i], compareUses)
	}
	return all
}

func compareUses(a, b api.Use) int {
	return cmp.Or(cmp.Compare(a.Kind, b.Kind), cmp.Compare(a.Text, b.Text))
}
