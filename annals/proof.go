package annals

import (
	"maps"
	"slices"

	"ostracon/api"
)

// proofBy returns facts of annals, none of which can be left out, that cannot be
// satisfied together with some more ones; ok is false if all facts can.
func proofBy(a api.Annals, more ...api.Fact) (proof []int, ok bool) {
	nothing := free(len(a.Points))
	refuted := func(left map[int]bool) bool {
		facts := slices.Clone(more)
		for i, f := range a.Facts {
			if left[i] {
				facts = append(facts, f)
			}
		}
		_, sound := nothing.with(len(a.Points), facts...)
		return !sound
	}
	return needed(len(a.Facts), refuted)
}

// needed begins with n facts and takes each one away, in order, without which the
// answer for those that are left is still yes. It returns those that stay; ok is
// false if the answer is no for all facts.
func needed(n int, ask func(left map[int]bool) bool) (stay []int, ok bool) {
	left, fewer := map[int]bool{}, map[int]bool{}
	for fact := range n {
		left[fact] = true
	}
	if !ask(left) {
		return nil, false
	}
	for fact := range n {
		clear(fewer)
		maps.Copy(fewer, left)
		delete(fewer, fact)
		if ask(fewer) {
			left, fewer = fewer, left
		}
	}
	return slices.Sorted(maps.Keys(left)), true
}
