package copies_test

import (
	"cmp"
	"math/big"
	"reflect"
	"slices"
	"testing"

	"ostracon/api"
	"ostracon/copies"
)

// pair returns a pair of places.
func pair(left, right int) api.Pair { return api.Pair{Left: left, Right: right} }

// tally returns a tally.
func tally(one, two int) api.Tally { return api.Tally{One: one, Two: two} }

// chance returns a fraction.
func chance(num, den int) copies.Chance { return copies.Chance{Num: num, Den: den} }

// stones are the blocks of the chapter's section Examples.
func stones() []api.Block {
	return []api.Block{
		{Right: []int{2, 3}, Rows: [][]int{{1, 2}, {5}}},
		{Left: []int{3, 2}, Right: []int{1}, Rows: [][]int{{3}, {6, 7}}},
		{Left: []int{4}, Rows: [][]int{{4}, {8}}},
	}
}

// equals are n blocks that all fit each other, each with some rows that are its number.
func equals(n, rows int) []api.Block {
	var blocks []api.Block
	for b := range n {
		blocks = append(blocks, api.Block{Left: []int{b}, Right: []int{b}, Rows: slices.Repeat([][]int{{b}}, rows)})
	}
	return blocks
}

// odd is a line that is none.
func odd() []int { return []int{0, -1} }

// numbers returns a line of n signs that are n times the same.
func numbers(n, sign int) []int { return slices.Repeat([]int{sign}, n) }

// same reports whether two values are equal; nil lists equal empty ones.
func same(x, y any) bool { return sameValue(reflect.ValueOf(x), reflect.ValueOf(y)) }

func sameValue(x, y reflect.Value) bool {
	switch x.Kind() {
	case reflect.Interface:
		return sameValue(x.Elem(), y.Elem())
	case reflect.Slice:
		equal := x.Len() == y.Len()
		for i := 0; equal && i < x.Len(); i++ {
			equal = sameValue(x.Index(i), y.Index(i))
		}
		return equal
	case reflect.Struct:
		equal := true
		for i := 0; equal && i < x.NumField(); i++ {
			equal = sameValue(x.Field(i), y.Field(i))
		}
		return equal
	}
	return x.Type() == y.Type() && x.Equal(y)
}

func expect[T any](t *testing.T, what string, got T, e api.Errno, want T) {
	t.Helper()
	if e != api.OK || !same(got, want) {
		t.Errorf("%s = %v, %d, want %v", what, got, e, want)
	}
}

func expectError[T any](t *testing.T, what string, got T, e, want api.Errno) {
	t.Helper()
	var zero T
	if e != want || !same(got, zero) {
		t.Errorf("%s = %v, %d, want nothing, %d", what, got, e, want)
	}
}

// dice give a fixed series of numbers, so that every run of the tests is alike.
type dice uint64

func (d *dice) below(n int) int {
	*d = *d*6364136223846793005 + 1442695040888963407
	return int(uint64(*d)>>33) % n
}

// line returns a line of at most most signs of n.
func (d *dice) line(n, most int) []int {
	var line []int
	for range d.below(most + 1) {
		line = append(line, d.below(n))
	}
	return line
}

// copied returns a line that a scribe has made of another one, with some changes.
func (d *dice) copied(n int, line []int, changes int) []int {
	line = slices.Clone(line)
	for range d.below(changes + 1) {
		at := d.below(len(line) + 1)
		switch {
		case d.below(2) == 0 && len(line) < api.MaxLine:
			line = slices.Insert(line, at, d.below(n))
		case at < len(line) && d.below(2) == 0:
			line = slices.Delete(line, at, at+1)
		case at < len(line):
			line[at] = d.below(n)
		}
	}
	return line
}

// couple returns two lines, often of some likeness.
func (d *dice) couple(most int) (a, b []int) {
	n := 1 + d.below(5)
	a = d.line(n, most)
	if d.below(3) == 0 {
		return a, d.line(n, most)
	}
	return a, d.copied(n, a, most/2)
}

// tallies returns two tallies with a sum of at most most.
func (d *dice) tallies(most int) (a, b api.Tally) {
	cuts := []int{d.below(most + 1), d.below(most + 1), d.below(most + 1), d.below(most + 1)}
	slices.Sort(cuts)
	return tally(cuts[0], cuts[1]-cuts[0]), tally(cuts[2]-cuts[1], cuts[3]-cuts[2])
}

// features returns the tallies of n copies, some of which differ strongly.
func (d *dice) features(n int) [][]api.Tally {
	all := make([][]api.Tally, n)
	for range 1 + d.below(3) {
		for i := range all {
			all[i] = append(all[i], []api.Tally{tally(7, 0), tally(0, 7), tally(3, 3), tally(0, 0), tally(5, 1)}[d.below(5)])
		}
	}
	return all
}

// edge returns a profile: one of few of each length, at some distance.
func (d *dice) edge(most int) []int {
	if d.below(12) == 0 {
		return nil
	}
	edge := numbers(1+d.below(most), d.below(3))
	if d.below(4) == 0 {
		edge[0] += 1
	}
	return edge
}

// blocks returns at most most blocks with short rows, of which many fit.
func (d *dice) blocks(most int) []api.Block {
	blocks := make([]api.Block, d.below(most+1))
	rows, wide := d.below(4), 1+d.below(3)
	for i := range blocks {
		left := d.edge(wide)
		for j := range left {
			left[j] = 5 - left[j]
		}
		blocks[i] = api.Block{Left: left, Right: d.edge(wide)}
		for range rows {
			blocks[i].Rows = append(blocks[i].Rows, d.line(9, 9))
		}
	}
	return blocks
}

// The functions below say again, as plainly as they can, what the chapter says.

// alignments yields all alignments of two lines, in order.
func alignments(a, b []int, yield func([]api.Pair)) {
	var extend func(i, j int, pairs []api.Pair)
	extend = func(i, j int, pairs []api.Pair) {
		if i == len(a) && j == len(b) {
			yield(pairs)
			return
		}
		if i < len(a) && j < len(b) {
			extend(i+1, j+1, append(slices.Clip(pairs), pair(i, j)))
		}
		if i < len(a) {
			extend(i+1, j, append(slices.Clip(pairs), pair(i, -1)))
		}
		if j < len(b) {
			extend(i, j+1, append(slices.Clip(pairs), pair(-1, j)))
		}
	}
	extend(0, 0, nil)
}

// price returns what an alignment costs.
func price(a, b []int, pairs []api.Pair) int {
	cost := 0
	for _, p := range pairs {
		switch {
		case p.Left == -1 || p.Right == -1:
			cost += 2
		case a[p.Left] != b[p.Right]:
			cost += 3
		}
	}
	return cost
}

// firstAlignment returns the first one with the least cost.
func firstAlignment(a, b []int) (first []api.Pair, cost int) {
	cost = -1
	alignments(a, b, func(pairs []api.Pair) {
		if n := price(a, b, pairs); cost == -1 || n < cost {
			first, cost = slices.Clone(pairs), n
		}
	})
	return first, cost
}

// prices returns the least cost of each beginning of a with each beginning of b.
func prices(a, b []int) [][]int {
	all := make([][]int, len(a)+1)
	for i := range all {
		all[i] = make([]int, len(b)+1)
		for j := range all[i] {
			n := 1000
			if i == 0 && j == 0 {
				n = 0
			}
			if i > 0 {
				n = min(n, all[i-1][j]+2)
			}
			if j > 0 {
				n = min(n, all[i][j-1]+2)
			}
			if i > 0 && j > 0 && a[i-1] == b[j-1] {
				n = min(n, all[i-1][j-1])
			}
			if i > 0 && j > 0 && a[i-1] != b[j-1] {
				n = min(n, all[i-1][j-1]+3)
			}
			all[i][j] = n
		}
	}
	return all
}

// least returns the least cost of an alignment.
func least(a, b []int) int { return prices(a, b)[len(a)][len(b)] }

// change is a variant of one copy and its extent.
type change struct {
	At, Extent int
	Signs      []int
}

// changes returns what lies between the pairs of equal signs of an alignment.
func changes(base, other []int, pairs []api.Pair) []change {
	var all []change
	i, j := 0, 0
	for _, p := range append(slices.Clip(pairs), pair(len(base), len(other))) {
		end := p == pair(len(base), len(other))
		if !end && (p.Left == -1 || p.Right == -1 || base[p.Left] != other[p.Right]) {
			continue
		}
		if p != pair(i, j) {
			all = append(all, change{At: i, Extent: p.Left - i, Signs: other[j:p.Right]})
		}
		i, j = p.Left+1, p.Right+1
	}
	return all
}

// applied returns the base with the changes that are chosen.
func applied(base []int, all []change, choose []bool) []int {
	var line []int
	for i := 0; i <= len(base); i++ {
		for c, x := range all {
			if x.At == i && choose[c] {
				line = append(line, x.Signs...)
			}
		}
		gone := false
		for c, x := range all {
			gone = gone || choose[c] && i >= x.At && i < x.At+x.Extent
		}
		if i < len(base) && !gone {
			line = append(line, base[i])
		}
	}
	return line
}

// choices returns all lists of n truth values.
func choices(n int) [][]bool {
	all := [][]bool{nil}
	for range n {
		var more [][]bool
		for _, x := range all {
			more = append(more, append(slices.Clip(x), false), append(slices.Clip(x), true))
		}
		all = more
	}
	return all
}

// exact returns what Fisher is, by numbers of any size.
func exact(a, b api.Tally) *big.Rat {
	m, n, r := a.One+a.Two, a.One+a.Two+b.One+b.Two, a.One+b.One
	weight := func(x int) *big.Int {
		w := new(big.Int).Binomial(int64(m), int64(x))
		return w.Mul(w, new(big.Int).Binomial(int64(n-m), int64(r-x)))
	}
	some, all := new(big.Int), new(big.Int)
	for x := max(0, r-(n-m)); x <= min(r, m); x++ {
		w := weight(x)
		all.Add(all, w)
		if w.Cmp(weight(a.One)) <= 0 {
			some.Add(some, w)
		}
	}
	return new(big.Rat).SetFrac(some, all)
}

func rat(c copies.Chance) *big.Rat { return big.NewRat(int64(c.Num), int64(c.Den)) }

// scribes returns the first of all lists of n scribes that keep copies apart with
// the fewest scribes.
func scribes(n int, apart [][2]int) []int {
	var best []int
	count := func(hands []int) int { return slices.Max(append(slices.Clip(hands), -1)) }
	var give func(hands []int)
	give = func(hands []int) {
		if len(hands) < n {
			for hand := range count(hands) + 2 {
				give(append(slices.Clip(hands), hand))
			}
			return
		}
		for _, x := range apart {
			if hands[x[0]] == hands[x[1]] {
				return
			}
		}
		if best == nil || cmp.Or(count(hands)-count(best), slices.Compare(hands, best)) < 0 {
			best = hands
		}
	}
	give(nil)
	return best
}

// fits reports whether the edges of two blocks fit.
func fits(left, right api.Block) bool {
	if len(left.Right) != len(right.Left) {
		return false
	}
	sums := map[int]bool{}
	for i := range left.Right {
		sums[left.Right[i]+right.Left[i]] = true
	}
	return len(sums) == 1
}

// orders returns all orders of n blocks, in order.
func orders(n int) [][]int {
	all := [][]int{nil}
	for range n {
		var more [][]int
		for _, order := range all {
			for b := range n {
				if !slices.Contains(order, b) {
					more = append(more, append(slices.Clip(order), b))
				}
			}
		}
		all = more
	}
	return all
}

// rowsOf returns all rows of blocks, in order.
func rowsOf(blocks []api.Block) [][]int {
	return slices.DeleteFunc(orders(len(blocks)), func(order []int) bool {
		return !isRow(blocks, order)
	})
}

func isRow(blocks []api.Block, order []int) bool {
	for i := range order {
		if i > 0 && !fits(blocks[order[i-1]], blocks[order[i]]) {
			return false
		}
	}
	return true
}
