package copies

import (
	"math/bits"

	"ostracon/api"
)

// mostDen is the greatest denominator of a limit.
const mostDen = 10000

// Fisher tests whether two copies choose between two variants alike.
func Fisher(a, b api.Tally) (Chance, api.Errno) {
	if !fewEnough(a.One, a.Two, b.One, b.Two) {
		return Chance{}, api.ErrTally
	}
	ofA, ofB, ones := a.One+a.Two, b.One+b.Two, a.One+b.One
	inA, inB := choices(ofA), choices(ofB)
	weight := func(x int) int { return inA[x] * inB[ones-x] }
	some, all := 0, 0
	for x := max(0, ones-ofB); x <= min(ones, ofA); x++ {
		if weight(x) <= weight(a.One) {
			some += weight(x)
		}
		all += weight(x)
	}
	d := divisor(some, all)
	return Chance{Num: some / d, Den: all / d}, api.OK
}

// fewEnough reports whether the numbers of tallies are valid.
func fewEnough(numbers ...int) bool {
	rest := api.MaxTally
	for _, n := range numbers {
		if n < 0 || n > rest {
			return false
		}
		rest -= n
	}
	return true
}

// choices returns the numbers of ways to choose 0, 1, .. n of n things.
func choices(n int) []int {
	ways := []int{1}
	for range n {
		ways = append(ways, 0)
		for k := len(ways) - 1; k > 0; k-- {
			ways[k] += ways[k-1]
		}
	}
	return ways
}

// divisor returns the greatest common divisor of two numbers.
func divisor(a, b int) int {
	for b != 0 {
		a, b = b, a%b
	}
	return a
}

// Apart reports whether two copies have been written by two scribes.
func Apart(a, b []api.Tally, limit Chance) (bool, api.Errno) {
	if len(a) != len(b) || len(a) == 0 || len(a) > api.MaxRows {
		return false, api.ErrTally
	}
	var chances []Chance
	for i := range a {
		c, e := Fisher(a[i], b[i])
		if e != api.OK {
			return false, e
		}
		chances = append(chances, c)
	}
	if limit.Den < 1 || limit.Den > mostDen || limit.Num < 0 || limit.Num > limit.Den {
		return false, api.ErrArg
	}
	for _, c := range chances {
		if atMost(c, limit) {
			return true, api.OK
		}
	}
	return false, api.OK
}

// atMost reports whether a fraction is at most another one. The products can be
// too great for 64 bits.
func atMost(a, b Chance) bool {
	high, low := bits.Mul64(uint64(a.Num), uint64(b.Den))
	most, rest := bits.Mul64(uint64(b.Num), uint64(a.Den))
	return high < most || high == most && low <= rest
}

// table says of each two copies whether they are apart.
type table [api.MaxCopies][api.MaxCopies]bool

// Hands returns the scribe of each copy.
func Hands(copies [][]api.Tally, limit Chance) ([]int, api.Errno) {
	if len(copies) > api.MaxCopies {
		return nil, api.ErrMany
	}
	if len(copies) == 1 {
		if _, e := Apart(copies[0], copies[0], limit); e != api.OK {
			return nil, e
		}
	}
	var apart table
	for i := range copies {
		for j := i + 1; j < len(copies); j++ {
			is, e := Apart(copies[i], copies[j], limit)
			if e != api.OK {
				return nil, e
			}
			apart[i][j], apart[j][i] = is, is
		}
	}
	return fewestHands(len(copies), apart), api.OK
}

// fewestHands returns the first list of as few scribes of n copies as possible.
func fewestHands(n int, apart table) []int {
	for most := 0; ; most++ { // n scribes always do
		if hands, ok := handsOf(n, most, apart); ok {
			return hands
		}
	}
}

// handsOf returns the first list of at most so many scribes of n copies, if there
// is one.
func handsOf(n, most int, apart table) (hands []int, ok bool) {
	var give func(used int) bool
	give = func(used int) bool {
		next := len(hands)
		if next == n {
			return true
		}
	nextHand:
		for hand := range min(used+1, most) {
			for earlier, other := range hands {
				if other == hand && apart[earlier][next] {
					continue nextHand
				}
			}
			hands = append(hands, hand)
			if give(max(used, hand+1)) {
				return true
			}
			hands = hands[:next]
		}
		return false
	}
	ok = give(0)
	return hands, ok
}
