package edition

import (
	"cmp"
	"slices"
	"strconv"

	"ostracon/api"
	"ostracon/groups"
)

// linesOf returns the marks of each item of a valid volume.
func linesOf(v api.Volume) [][]api.Mark {
	var lines [][]api.Mark
	for _, item := range v.Items {
		line, _ := groups.Line(v.List, item.Text)
		lines = append(lines, line)
	}
	return lines
}

func isGap(m api.Mark) bool {
	return m.Sign < 0
}

// stand is a sign where it stands.
type stand struct {
	sign  int
	place api.Place
}

func (s stand) compare(other stand) int {
	return cmp.Or(
		cmp.Compare(s.sign, other.sign),
		cmp.Compare(s.place.Item, other.place.Item),
		cmp.Compare(s.place.At, other.place.At),
	)
}

// entry is a sign with all its places.
type entry struct {
	sign   int
	places []api.Place
}

// compareByPlaces puts signs with more places first.
func (x entry) compareByPlaces(other entry) int {
	return cmp.Or(
		cmp.Compare(len(other.places), len(x.places)),
		cmp.Compare(x.sign, other.sign),
	)
}

// entries returns the signs that stand somewhere in lines, in ascending order,
// with their places in order.
func entries(lines [][]api.Mark) []entry {
	var found []entry
	for _, s := range stands(lines) {
		if len(found) == 0 || found[len(found)-1].sign != s.sign {
			found = append(found, entry{sign: s.sign})
		}
		last := &found[len(found)-1]
		last.places = append(last.places, s.place)
	}
	return found
}

// stands returns the signs of lines where they stand, equal signs one after the
// other.
func stands(lines [][]api.Mark) []stand {
	var all []stand
	for item, line := range lines {
		for at, m := range line {
			if !isGap(m) {
				all = append(all, stand{m.Sign, api.Place{Item: item, At: at}})
			}
		}
	}
	slices.SortFunc(all, stand.compare)
	return all
}

// placesOf returns the places of a sign in lines.
func placesOf(lines [][]api.Mark, sign int) []api.Place {
	for _, x := range entries(lines) {
		if x.sign == sign {
			return x.places
		}
	}
	return nil
}

// Where returns the places of a sign.
func Where(v api.Volume, sign int) ([]api.Place, api.Errno) {
	if e := checkSign(v, sign); e != api.OK {
		return nil, e
	}
	return placesOf(linesOf(v), sign), api.OK
}

// Frequencies returns the signs, the most frequent first.
func Frequencies(v api.Volume) ([]int, api.Errno) {
	if e := Check(v); e != api.OK {
		return nil, e
	}
	found := entries(linesOf(v))
	slices.SortFunc(found, entry.compareByPlaces)
	var order []int
	for _, x := range found {
		order = append(order, x.sign)
	}
	return order, api.OK
}

// Index returns the places of all signs.
func Index(v api.Volume) (string, api.Errno) {
	if e := Check(v); e != api.OK {
		return "", e
	}
	var s sheet
	for _, x := range entries(linesOf(v)) {
		parts := []string{v.List.Signs[x.sign].Code, " ", strconv.Itoa(len(x.places)), ":"}
		for _, p := range x.places {
			parts = append(parts, " ", strconv.Itoa(p.Item), ".", strconv.Itoa(p.At))
		}
		s.print(parts...)
	}
	return s.text(), api.OK
}
