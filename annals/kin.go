package annals

import (
	"slices"

	"ostracon/api"
)

// Order returns people with parents before children.
func Order(k api.Kin) ([]int, api.Errno) {
	if e := checkKin(k); e != api.OK {
		return nil, e
	}
	const come = -1
	waits := make([]int, k.People) // for how many parents each one waits
	for _, b := range k.Bonds {
		waits[b.Child]++
	}
	var order []int
	for range k.People {
		next := slices.Index(waits, 0)
		if next < 0 {
			return nil, api.ErrConflict
		}
		order = append(order, next)
		waits[next] = come
		for _, b := range k.Bonds {
			if b.Parent == next {
				waits[b.Child]--
			}
		}
	}
	return order, api.OK
}

// Kinship returns the steps to a common ancestor.
func Kinship(k api.Kin, one, two int) (up, down int, e api.Errno) {
	if _, e := Order(k); e != api.OK {
		return 0, 0, e
	}
	if !isPerson(k, one) || !isPerson(k, two) {
		return 0, 0, api.ErrArg
	}
	ups, downs := stepsUp(k, one), stepsUp(k, two)
	found := false
	for person := range k.People {
		u, d := ups[person], downs[person]
		if u == noWay || d == noWay {
			continue
		}
		if !found || u+d < up+down || u+d == up+down && u < up {
			up, down, found = u, d, true
		}
	}
	if !found {
		return 0, 0, api.ErrNone
	}
	return up, down, api.OK
}

// noWay is said of the steps to somebody who is not an ancestor.
const noWay = -1

// stepsUp returns for each person the fewest steps up to them from somebody.
func stepsUp(k api.Kin, one int) []int {
	steps := slices.Repeat([]int{noWay}, k.People)
	steps[one] = 0
	for reached := []int{one}; len(reached) > 0; reached = reached[1:] {
		for _, b := range k.Bonds {
			if b.Child == reached[0] && steps[b.Parent] == noWay {
				steps[b.Parent] = steps[b.Child] + 1
				reached = append(reached, b.Parent)
			}
		}
	}
	return steps
}

// checkKin returns the first error of people and bonds, but for circles.
func checkKin(k api.Kin) api.Errno {
	if k.People > api.MaxPeople || len(k.Bonds) > api.MaxBonds {
		return api.ErrMany
	}
	if k.People < 0 {
		return api.ErrKin
	}
	parents := make([]int, k.People)
	for i, b := range k.Bonds {
		if !isPerson(k, b.Parent) || !isPerson(k, b.Child) || b.Parent == b.Child || slices.Contains(k.Bonds[:i], b) {
			return api.ErrKin
		}
		if parents[b.Child]++; parents[b.Child] > 2 {
			return api.ErrKin
		}
	}
	return api.OK
}

func isPerson(k api.Kin, number int) bool {
	return number >= 0 && number < k.People
}
