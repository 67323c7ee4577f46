package edition

import (
	"slices"

	"ostracon/api"
	"ostracon/signs"
)

// Select returns a volume with some items.
func Select(v api.Volume, items []int) (api.Volume, api.Errno) {
	if e := Check(v); e != api.OK {
		return api.Volume{}, e
	}
	var chosen []api.Item
	taken := make([]bool, len(v.Items))
	for _, i := range items {
		if !hasItem(v, i) || taken[i] {
			return api.Volume{}, api.ErrArg
		}
		taken[i] = true
		chosen = append(chosen, v.Items[i])
	}
	return api.Volume{List: copyList(v.List), Items: copyItems(chosen)}, api.OK
}

// Join returns two volumes as one.
func Join(a, b api.Volume) (api.Volume, api.Errno) {
	if e := Check(a); e != api.OK {
		return api.Volume{}, e
	}
	if e := Check(b); e != api.OK {
		return api.Volume{}, e
	}
	list, e := signs.Merge(a.List, b.List)
	if e != api.OK {
		return api.Volume{}, e
	}
	if len(a.Items)+len(b.Items) > api.MaxItems {
		return api.Volume{}, api.ErrMany
	}
	for _, item := range b.Items {
		if hasTitle(a.Items, item.Title) {
			return api.Volume{}, api.ErrTitle
		}
	}
	// The signs of a are the first ones of the list, in their order.
	items := slices.Concat(copyItems(a.Items), renumbered(b.Items, numbersIn(list, b.List)))
	return api.Volume{List: list, Items: items}, api.OK
}

// numbersIn returns the number that each sign of a list has in another one, which
// has all of them.
func numbersIn(other, l api.List) []int {
	byCode := make(map[string]int, len(other.Signs))
	for i, s := range other.Signs {
		byCode[s.Code] = i
	}
	var numbers []int
	for _, s := range l.Signs {
		numbers = append(numbers, byCode[s.Code])
	}
	return numbers
}

// Renumber returns a volume with its signs in another order.
func Renumber(v api.Volume, order []int) (api.Volume, api.Errno) {
	if e := Check(v); e != api.OK {
		return api.Volume{}, e
	}
	numbers, ok := inverse(order, len(v.List.Signs))
	if !ok {
		return api.Volume{}, api.ErrArg
	}
	list := api.List{Periods: v.List.Periods}
	for _, old := range order {
		list.Signs = append(list.Signs, v.List.Signs[old])
	}
	return api.Volume{List: copyList(list), Items: renumbered(v.Items, numbers)}, api.OK
}

// inverse returns the place of each number in an order; ok reports whether this
// has each number below n once.
func inverse(order []int, n int) (places []int, ok bool) {
	if len(order) != n {
		return nil, false
	}
	const none = -1
	places = slices.Repeat([]int{none}, n)
	for i, number := range order {
		if number < 0 || number >= n || places[number] != none {
			return nil, false
		}
		places[number] = i
	}
	return places, true
}

// renumbered returns items with other numbers of their signs, in new memory.
func renumbered(items []api.Item, numbers []int) []api.Item {
	out := copyItems(items)
	for _, item := range out {
		for i := range item.Text.Nodes {
			n := &item.Text.Nodes[i]
			if n.Kind == api.Glyph {
				n.Sign = numbers[n.Sign]
			}
		}
	}
	return out
}

func copyItems(items []api.Item) []api.Item {
	out := slices.Clone(items)
	for i := range out {
		out[i].Text.Nodes = slices.Clone(out[i].Text.Nodes)
	}
	return out
}

func copyList(l api.List) api.List {
	l.Signs = slices.Clone(l.Signs)
	for i := range l.Signs {
		l.Signs[i].Values = slices.Clone(l.Signs[i].Values)
	}
	return l
}
