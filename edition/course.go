package edition

import (
	"cmp"
	"slices"

	"ostracon/api"
)

// learner is somebody who knows signs.
type learner map[int]bool

// newLearner returns somebody who knows some signs; ok reports whether these are
// signs of the list in strictly ascending order.
func newLearner(v api.Volume, known []int) (who learner, ok bool) {
	who = learner{}
	for _, sign := range known {
		if !hasSign(v, sign) {
			return nil, false
		}
		who[sign] = true
	}
	// A sign that stands twice, or behind a greater one, makes a difference here.
	return who, slices.Equal(who.knows(), known)
}

// knows returns the signs that are known, in ascending order.
func (who learner) knows() []int {
	var known []int
	for sign := range who {
		known = append(known, sign)
	}
	slices.Sort(known)
	return known
}

// lacks returns the signs of a line that are not known, in order of their first
// places.
func (who learner) lacks(line []api.Mark) []int {
	var fresh []int
	for _, m := range line {
		if !isGap(m) && !who[m.Sign] && !slices.Contains(fresh, m.Sign) {
			fresh = append(fresh, m.Sign)
		}
	}
	return fresh
}

func (who learner) learn(fresh []int) {
	for _, sign := range fresh {
		who[sign] = true
	}
}

// easiest returns the first one of the items that are left with the fewest signs
// that are not known.
func (who learner) easiest(lines [][]api.Mark, left []int) int {
	return slices.MinFunc(left, func(a, b int) int {
		return cmp.Compare(len(who.lacks(lines[a])), len(who.lacks(lines[b])))
	})
}

// Course returns lessons.
func Course(v api.Volume, known []int, most int) ([]api.Lesson, api.Errno) {
	if e := Check(v); e != api.OK {
		return nil, e
	}
	who, ok := newLearner(v, known)
	if !ok || most < 1 || most > api.MaxSigns {
		return nil, api.ErrArg
	}
	lines := linesOf(v)
	var left []int
	for item := range v.Items {
		left = append(left, item)
	}
	var lessons []api.Lesson
	for len(left) > 0 {
		item := who.easiest(lines, left)
		fresh := who.lacks(lines[item])
		lessons = append(lessons, lessonsOf(item, fresh, most)...)
		who.learn(fresh)
		left = slices.DeleteFunc(left, func(other int) bool { return other == item })
	}
	return lessons, api.OK
}

// lessonsOf returns lessons of most signs each; an item without new signs has one
// lesson, too.
func lessonsOf(item int, fresh []int, most int) []api.Lesson {
	var lessons []api.Lesson
	for {
		n := min(most, len(fresh))
		lessons = append(lessons, api.Lesson{Item: item, Signs: slices.Clone(fresh[:n])})
		fresh = fresh[n:]
		if len(fresh) == 0 {
			return lessons
		}
	}
}

// Drill returns the items that can be read with known signs.
func Drill(v api.Volume, known []int) ([]int, api.Errno) {
	if e := Check(v); e != api.OK {
		return nil, e
	}
	who, ok := newLearner(v, known)
	if !ok {
		return nil, api.ErrArg
	}
	var items []int
	for item, line := range linesOf(v) {
		if len(who.lacks(line)) == 0 {
			items = append(items, item)
		}
	}
	return items, api.OK
}
