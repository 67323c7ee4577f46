package wall_test

import (
	"cmp"
	"reflect"
	"slices"
	"strconv"
	"testing"

	"ostracon/api"
	"ostracon/wall"
)

// list returns a list of n signs.
func list(n int) api.List {
	l := api.List{Periods: 1}
	for i := range n {
		l.Signs = append(l.Signs, api.Sign{Code: "A" + strconv.Itoa(i), Wide: 1, High: 1})
	}
	return l
}

// broken is a list that is not valid.
func broken() api.List { return api.List{Signs: list(3).Signs} }

// cell returns a cell of least to most signs; no signs are any.
func cell(least, most int, signs ...int) api.Cell {
	return api.Cell{Min: least, Max: most, Signs: signs}
}

// one returns a cell of just one sign.
func one(signs ...int) api.Cell { return cell(1, 1, signs...) }

// left and right are the cells X and Y of the chapter's section Examples, for a
// list of three signs.
func left() []api.Cell { return []api.Cell{one(0), cell(0, 2), one(2)} }

func right() []api.Cell { return []api.Cell{one(), cell(1, 3, 1), one(1, 2)} }

func expectError(t *testing.T, what string, result any, e, want api.Errno) {
	t.Helper()
	if v := reflect.ValueOf(result); e != want || v.Kind() == reflect.Slice && v.Len() > 0 || v.Kind() == reflect.Int && !v.IsZero() {
		t.Errorf("%s = %v, %d, want nothing, %d", what, result, e, want)
	}
	if r, ok := result.(api.Restored); ok && !sameRestored(r, api.Restored{}) {
		t.Errorf("%s = %v with the error %d", what, r, e)
	}
}

func expectNumbers(t *testing.T, what string, got []int, e api.Errno, want ...int) {
	t.Helper()
	if e != api.OK || !slices.Equal(got, want) {
		t.Errorf("%s = %v, %d, want %v", what, got, e, want)
	}
}

func expectCells(t *testing.T, what string, got []api.Cell, e api.Errno, want ...api.Cell) {
	t.Helper()
	if e != api.OK || !slices.EqualFunc(got, want, sameCell) {
		t.Errorf("%s = %v, %d, want %v", what, got, e, want)
	}
}

func expectRestored(t *testing.T, what string, got api.Restored, e api.Errno, want api.Restored) {
	t.Helper()
	if e != api.OK || !sameRestored(got, want) {
		t.Errorf("%s = %v, %d, want %v", what, got, e, want)
	}
}

func sameCell(a, b api.Cell) bool {
	return a.Min == b.Min && a.Max == b.Max && slices.Equal(a.Signs, b.Signs)
}

func sameRestored(a, b api.Restored) bool {
	return slices.Equal(a.Signs, b.Signs) && slices.Equal(a.Cells, b.Cells) && slices.Equal(a.Source, b.Source) && a.Changes == b.Changes
}

// dice give a fixed series of numbers, so that every run of the tests is alike.
type dice uint64

func (d *dice) below(n int) int {
	*d = *d*6364136223846793005 + 1442695040888963407
	return int(uint64(*d)>>33) % n
}

// signs returns strictly ascending signs of n, or none.
func (d *dice) signs(n int) []int {
	var all []int
	for sign := range n {
		if d.below(3) == 0 {
			all = append(all, sign)
		}
	}
	return all
}

// cells returns at most many valid cells of at most most signs each, for n signs.
func (d *dice) cells(n, many, most int) []api.Cell {
	var all []api.Cell
	room := api.MaxLine
	for range d.below(many + 1) {
		c := api.Cell{Max: min(d.below(most+1), room), Signs: d.signs(n)}
		if n == 0 {
			c.Max = 0
		}
		c.Min = d.below(c.Max + 1)
		room -= c.Max
		all = append(all, c)
	}
	return all
}

// line returns a line of at most most signs of n.
func (d *dice) line(n, most int) []int {
	var line []int
	if n == 0 {
		return nil
	}
	for range d.below(most + 1) {
		line = append(line, d.below(n))
	}
	return line
}

// fill returns a line that agrees with cells.
func (d *dice) fill(n int, cells []api.Cell) []int {
	var line []int
	for _, c := range cells {
		for range c.Min + d.below(c.Max-c.Min+1) {
			sign := d.below(n)
			if len(c.Signs) > 0 {
				sign = c.Signs[d.below(len(c.Signs))]
			}
			line = append(line, sign)
		}
	}
	return line
}

// spoil returns a line that some changes have made of another one.
func (d *dice) spoil(n int, line []int, changes int) []int {
	spoiled := slices.Clone(line)
	for range d.below(changes + 1) {
		at := d.below(len(spoiled) + 1)
		switch {
		case d.below(2) == 0 && len(spoiled) < api.MaxLine:
			spoiled = slices.Insert(spoiled, at, d.below(n))
		case at < len(spoiled) && d.below(2) == 0:
			spoiled = slices.Delete(spoiled, at, at+1)
		case at < len(spoiled):
			spoiled[at] = d.below(n)
		}
	}
	return spoiled
}

// The functions below say again, as plainly as they can, what the chapter says
// of lines, cells and restorations.

func allowed(c api.Cell, sign int) bool {
	return len(c.Signs) == 0 || slices.Contains(c.Signs, sign)
}

// divisions returns the cells of the signs of a line in each division of it.
func divisions(cells []api.Cell, line []int) [][]int {
	var all [][]int
	var divide func(at int, division []int)
	divide = func(at int, division []int) {
		from := len(division)
		if at == len(cells) {
			if from == len(line) {
				all = append(all, slices.Clone(division))
			}
			return
		}
		for n := 0; n <= cells[at].Max && from+n <= len(line); n++ {
			if n > 0 && !allowed(cells[at], line[from+n-1]) {
				break
			}
			if n >= cells[at].Min {
				divide(at+1, append(slices.Clone(division), slices.Repeat([]int{at}, n)...))
			}
		}
	}
	divide(0, nil)
	return all
}

// longest returns the division with the longest first stretch, and so on.
func longest(divisions [][]int) []int {
	// The longer a stretch is, the later the number of a greater cell comes.
	return slices.MinFunc(divisions, slices.Compare)
}

// linesOf returns all different lines that agree with cells.
func linesOf(n int, cells []api.Cell) [][]int {
	var all [][]int
	var write func(at, signs int, line []int)
	write = func(at, signs int, line []int) {
		if at == len(cells) {
			all = append(all, line)
			return
		}
		if signs >= cells[at].Min {
			write(at+1, 0, line)
		}
		if signs == cells[at].Max {
			return
		}
		for sign := range n {
			if allowed(cells[at], sign) {
				write(at, signs+1, append(slices.Clone(line), sign))
			}
		}
	}
	write(0, 0, nil)
	slices.SortFunc(all, slices.Compare)
	return slices.CompactFunc(all, slices.Equal)
}

// partners returns all alignments of a line with a parallel: for each place of
// the line that with which it is paired, or far if there is none.
func partners(line, parallel []int) [][]int {
	var all [][]int
	var pair func(from int, partner []int)
	pair = func(from int, partner []int) {
		if len(partner) == len(line) {
			all = append(all, partner)
			return
		}
		pair(from, append(slices.Clone(partner), far))
		for place := from; place < len(parallel); place++ {
			pair(place+1, append(slices.Clone(partner), place))
		}
	}
	pair(0, nil)
	return all
}

const far = api.MaxLine

// sum returns the sum of an alignment.
func sum(line, parallel, partner []int) int {
	lone := len(parallel)
	n := 0
	for i, place := range partner {
		switch {
		case place == far:
			n++
			continue
		case line[i] != parallel[place]:
			n++
		}
		lone--
	}
	return n + lone
}

// best returns the alignment that counts, and its sum.
func best(line, parallel []int) (partner []int, changes int) {
	partner = slices.MinFunc(partners(line, parallel), func(a, b []int) int {
		return cmp.Or(sum(line, parallel, a)-sum(line, parallel, b), slices.Compare(a, b))
	})
	return partner, sum(line, parallel, partner)
}

// evidence returns the restoration that has the signs of a line that agrees.
func evidence(cells []api.Cell, parallel, line []int) api.Restored {
	partner, changes := best(line, parallel)
	r := api.Restored{Signs: line, Cells: longest(divisions(cells, line)), Changes: changes}
	for i, place := range partner {
		if place == far || parallel[place] != line[i] {
			place = -1
		}
		r.Source = append(r.Source, place)
	}
	return r
}

// compareRestored is the order of restorations.
func compareRestored(a, b api.Restored) int {
	return cmp.Or(a.Changes-b.Changes, len(a.Signs)-len(b.Signs), slices.Compare(a.Signs, b.Signs))
}

// allRestored returns all restorations, in order.
func allRestored(n int, cells []api.Cell, parallel []int) []api.Restored {
	var all []api.Restored
	for _, line := range linesOf(n, cells) {
		all = append(all, evidence(cells, parallel, line))
	}
	slices.SortFunc(all, compareRestored)
	return all
}

// changes returns the changes from a line to another one, whatever their length.
func changes(t testing.TB, l api.List, a, b []int) int {
	t.Helper()
	n, _, e := wall.Changes(l, a, b)
	if e != api.OK {
		t.Fatalf("Changes of %v and %v: %d", a, b, e)
	}
	return n
}
