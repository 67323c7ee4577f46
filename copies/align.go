package copies

import "ostracon/api"

// none stands where a place has no partner.
const none = -1

// What a pair costs that is not one of two equal signs.
const (
	unequal = 3
	lone    = 2
)

// alignment aligns two lines.
type alignment struct {
	a, b []int
	rest [api.MaxLine + 1][api.MaxLine + 1]int // the least cost of the rests of both from a place of each on
}

func align(a, b []int) *alignment {
	x := &alignment{a: a, b: b}
	for i := len(a); i >= 0; i-- {
		for j := len(b); j >= 0; j-- {
			x.rest[i][j] = x.restAt(i, j)
		}
	}
	return x
}

// restAt returns the least cost of the rests, from those of shorter ones.
func (x *alignment) restAt(i, j int) int {
	left, right := len(x.a)-i, len(x.b)-j
	if left == 0 || right == 0 {
		return lone * (left + right)
	}
	return min(x.both(i, j), x.rest[i+1][j]+lone, x.rest[i][j+1]+lone)
}

// both returns the least cost of the rests if their first places are paired.
func (x *alignment) both(i, j int) int {
	if x.a[i] == x.b[j] {
		return x.rest[i+1][j+1]
	}
	return x.rest[i+1][j+1] + unequal
}

func (x *alignment) cost() int { return x.rest[0][0] }

// pairs returns the first alignment with the least cost.
func (x *alignment) pairs() []api.Pair {
	var pairs []api.Pair
	i, j := 0, 0
	for i < len(x.a) || j < len(x.b) {
		p := x.next(i, j)
		if p.Left != none {
			i++
		}
		if p.Right != none {
			j++
		}
		pairs = append(pairs, p)
	}
	return pairs
}

// next returns the first pair with which the rests from two places on can cost
// the least.
func (x *alignment) next(i, j int) api.Pair {
	switch least := x.rest[i][j]; {
	case i < len(x.a) && j < len(x.b) && x.both(i, j) == least:
		return api.Pair{Left: i, Right: j}
	case i < len(x.a) && x.rest[i+1][j]+lone == least:
		return api.Pair{Left: i, Right: none}
	}
	return api.Pair{Left: none, Right: j}
}

// stretch is one in which a copy does not agree with the base: where it begins in
// the base and how many signs it has there, and the signs of the copy.
type stretch struct {
	at, extent int
	signs      []int
}

// stretches returns the stretches in which a copy does not agree with the base.
func stretches(base, other []int) []stretch {
	var all []stretch
	at, agreed := 0, true
	for _, p := range align(base, other).pairs() {
		agrees := p.Left != none && p.Right != none && base[p.Left] == other[p.Right]
		if agreed && !agrees {
			all = append(all, stretch{at: at})
		}
		if !agrees {
			all[len(all)-1].add(p, other)
		}
		if p.Left != none {
			at++
		}
		agreed = agrees
	}
	return all
}

// add adds a pair of the base and a copy to a stretch.
func (s *stretch) add(p api.Pair, other []int) {
	if p.Left != none {
		s.extent++
	}
	if p.Right != none {
		s.signs = append(s.signs, other[p.Right])
	}
}
