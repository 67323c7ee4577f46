package wall

import (
	"slices"

	"ostracon/api"
)

// slot is room for one sign.
type slot struct {
	allows []bool // by the number of the sign
	open   bool   // it may stay empty
}

// strip has the slots of cells, one after the other. A line agrees with the
// cells exactly if its signs can be put into slots, in order, so that only open
// slots stay empty.
//
// A position is a number of slots that are passed. A set of positions is written
// as a string of runes, in ascending order, without those that are reached from
// another one of the set by passing open slots.
type strip struct {
	slots []slot
	past  []int // the last position that is reached from each one by passing open slots
	signs int   // of the list
}

func newStrip(signs int, cells []api.Cell) strip {
	s := strip{signs: signs}
	for _, c := range cells {
		x := slot{allows: make([]bool, signs)}
		for sign := range signs {
			x.allows[sign] = allows(c, sign)
		}
		for n := range c.Max {
			x.open = n >= c.Min
			s.slots = append(s.slots, x)
		}
	}
	s.past = make([]int, len(s.slots)+1)
	for p := range s.past {
		s.past[p] = s.pass(p)
	}
	return s
}

// pass returns the last position that is reached by passing open slots.
func (s strip) pass(position int) int {
	for position < len(s.slots) && s.slots[position].open {
		position++
	}
	return position
}

// start is the set of the position before all slots.
func (s strip) start() string { return string(rune(0)) }

// step returns the positions behind a sign. The empty set says that no line goes
// on with it.
func (s strip) step(set string, sign int) string {
	var next []rune
	reached := none // the last position that is reached from those in next without a sign
	for _, from := range set {
		for p := int(from); p <= s.past[from] && p < len(s.slots); p++ {
			if s.slots[p].allows[sign] && p+1 > reached {
				next = append(next, rune(p+1))
				reached = s.past[p+1]
			}
		}
	}
	return string(next)
}

// mayEnd reports whether a line that has led to some positions may end there.
func (s strip) mayEnd(set string) bool {
	for _, p := range set {
		if s.past[p] == len(s.slots) {
			return true
		}
	}
	return false
}

// twins returns the signs of the list in groups that no slot tells apart, but
// each sign that is named apart is alone in its group.
func (s strip) twins(apart ...int) [][]int {
	var groups [][]int
	known := map[string]int{}
	for sign := range s.signs {
		var key []rune // the slots that allow the sign
		for p, x := range s.slots {
			if x.allows[sign] {
				key = append(key, rune(p))
			}
		}
		if slices.Contains(apart, sign) {
			key = append(key, rune(len(s.slots)+sign))
		}
		group, ok := known[string(key)]
		if !ok {
			group = len(groups)
			known[string(key)] = group
			groups = append(groups, nil)
		}
		groups[group] = append(groups[group], sign)
	}
	return groups
}
