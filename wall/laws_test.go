package wall_test

import (
	"math"
	"reflect"
	"slices"
	"testing"

	"ostracon/api"
	"ostracon/wall"
)

// scene returns some signs, valid cells of any length, and a parallel that is
// perhaps like a line that agrees.
func (d *dice) scene() (n int, cells []api.Cell, parallel []int) {
	n = []int{1, 2, 3, 5, 30, 200}[d.below(6)]
	cells = d.cells(n, 1+d.below(40), 1+d.below(9))
	parallel = d.line(n, api.MaxLine)
	if d.below(3) > 0 {
		parallel = d.spoil(n, d.fill(n, cells), 6)
	}
	return n, cells, parallel
}

func restore(t testing.TB, l api.List, cells []api.Cell, parallel []int) api.Restored {
	t.Helper()
	r, e := wall.Restore(l, cells, parallel)
	if e != api.OK {
		t.Fatalf("Restore of %v by %v: %d", cells, parallel, e)
	}
	return r
}

// P8.6 and P0.5: restorations are different, in order, and agree with their evidence.
func TestRestorationsAreVerified(t *testing.T) {
	d := dice(10)
	long := 0
	for range 200 {
		n, cells, parallel := d.scene()
		l := list(n)
		most := 1 + d.below(64)
		all, e := wall.List(l, cells, parallel, most)
		lines, e2 := wall.Count(l, cells)
		if e != api.OK || e2 != api.OK || len(all) != min(most, lines) {
			t.Fatalf("List of %v by %v has %d restorations of %d, %d, %d", cells, parallel, len(all), lines, e, e2)
		}
		for i, r := range all {
			if e := wall.Verify(l, cells, parallel, r); e != api.OK {
				t.Fatalf("Verify of %v and %v by %v = %d", r, cells, parallel, e)
			}
			if i > 0 && compareRestored(all[i-1], r) >= 0 {
				t.Fatalf("List of %v by %v has %v before %v", cells, parallel, all[i-1], r)
			}
		}
		if len(all[0].Signs) > 20 {
			long++
		}
	}
	if long < 30 {
		t.Errorf("only %d restorations are long", long)
	}
}

// P8.7 and P0.5: no line that agrees comes before the first restoration, and one
// that comes before the last one is listed.
func TestNoneIsMissing(t *testing.T) {
	d := dice(11)
	listed := 0
	for range 150 {
		n, cells, parallel := d.scene()
		l := list(n)
		all, e := wall.List(l, cells, parallel, api.MaxList)
		if e != api.OK {
			t.Fatalf("List: %d", e)
		}
		for range 30 {
			line := d.fill(n, cells)
			if d.below(2) == 0 { // one that is near
				line = d.spoil(n, all[d.below(len(all))].Signs, 1)
			}
			if _, e := wall.Agrees(l, cells, line); e != api.OK {
				continue
			}
			r := api.Restored{Signs: line, Changes: changes(t, l, parallel, line)}
			at, found := slices.BinarySearchFunc(all, r, compareRestored)
			if !found && at < len(all) || !found && len(all) < api.MaxList {
				t.Fatalf("List of %v by %v lacks %v", cells, parallel, r)
			}
			if found {
				listed++
			}
		}
	}
	if listed < 500 {
		t.Errorf("only %d lines are listed", listed)
	}
}

// P8.8
func TestChangesAreADistance(t *testing.T) {
	d := dice(12)
	for range 1000 {
		n := 1 + d.below(5)
		l := list(n)
		a := d.line(n, api.MaxLine)
		b, c := d.spoil(n, a, 5), d.line(n, api.MaxLine)
		if d.below(2) == 0 {
			c = d.spoil(n, b, 5)
		}
		ab, bc, ac := changes(t, l, a, b), changes(t, l, b, c), changes(t, l, a, c)
		if ab != changes(t, l, b, a) || ab > 5 || (ab == 0) != slices.Equal(a, b) || (ac == 0) != slices.Equal(a, c) {
			t.Fatalf("Changes of %v and %v = %d", a, b, ab)
		}
		if ac > ab+bc || ab > ac+bc || bc > ab+ac {
			t.Fatalf("Changes of %v, %v and %v = %d, %d and %d", a, b, c, ab, bc, ac)
		}
	}
}

// P8.9
func TestParallelAgrees(t *testing.T) {
	d := dice(13)
	for range 300 {
		n, cells, _ := d.scene()
		parallel := d.fill(n, cells)
		r := restore(t, list(n), cells, parallel)
		if r.Changes != 0 || !slices.Equal(r.Signs, parallel) {
			t.Fatalf("Restore of %v by %v = %v", cells, parallel, r)
		}
		for i, place := range r.Source {
			if place != i {
				t.Fatalf("Restore of %v by %v takes the sign %d from %d", cells, parallel, i, place)
			}
		}
	}
}

// looser returns cells that allow more, and perhaps a line less.
func (d *dice) looser(n int, cells []api.Cell) []api.Cell {
	loose := slices.Clone(cells)
	room := api.MaxLine
	for _, c := range cells {
		room -= c.Max
	}
	for i, c := range loose {
		switch d.below(4) {
		case 0:
			loose[i].Min = d.below(c.Min + 1)
		case 1:
			more := d.below(min(room, api.MaxGap-c.Max) + 1)
			loose[i].Max += more
			room -= more
		case 2:
			loose[i].Signs = nil
		case 3:
			if len(c.Signs) > 0 {
				more := append(d.signs(n), c.Signs...)
				slices.Sort(more)
				loose[i].Signs = slices.Compact(more)
			}
		}
	}
	return loose
}

// P8.10
func TestLooserCells(t *testing.T) {
	d := dice(14)
	fewer := 0
	for range 400 {
		n, cells, parallel := d.scene()
		l, loose := list(n), d.looser(n, cells)
		line := d.fill(n, cells)
		if _, e := wall.Agrees(l, loose, line); e != api.OK {
			t.Fatalf("Agrees of %v and %v = %d, but it agrees with %v", loose, line, e, cells)
		}
		before, after := restore(t, l, cells, parallel), restore(t, l, loose, parallel)
		if after.Changes > before.Changes {
			t.Fatalf("Restore of %v by %v takes %d changes, of %v %d", loose, parallel, after.Changes, cells, before.Changes)
		}
		if after.Changes < before.Changes {
			fewer++
		}
		few, e := wall.Count(l, cells)
		many, e2 := wall.Count(l, loose)
		if few > many || e != api.OK || e2 != api.OK {
			t.Fatalf("Count of %v = %d, %d, of %v %d, %d", loose, many, e2, cells, few, e)
		}
	}
	if fewer < 50 {
		t.Errorf("only %d restorations take fewer changes", fewer)
	}
}

// P8.11
func TestMeetAgreesWithBoth(t *testing.T) {
	d := dice(15)
	met := 0
	for range 4000 {
		n := 2 + d.below(4)
		l := list(n)
		a, b := d.cells(n, 4, 3), d.cells(n, 4, 3)
		b = b[:min(len(a), len(b))]
		a = a[:len(b)]
		cells, e := wall.Meet(l, a, b)
		if e != api.OK {
			continue
		}
		if e := wall.Check(l, cells); e != api.OK {
			t.Fatalf("Check of Meet of %v and %v, %v = %d", a, b, cells, e)
		}
		met++
		line := d.fill(n, cells)
		_, e = wall.Agrees(l, a, line)
		_, e2 := wall.Agrees(l, b, line)
		if e != api.OK || e2 != api.OK {
			t.Fatalf("Agrees of %v = %d and %d, but it agrees with %v of %v and %v", line, e, e2, cells, a, b)
		}
	}
	if met < 1000 {
		t.Errorf("only %d cells meet", met)
	}
}

// P8.5: stretches that both cells of a place allow are those that Meet allows.
func TestMeetAsTold(t *testing.T) {
	d := dice(16)
	var ends [2]int
	for range 3000 {
		n := 1 + d.below(4)
		a, b := cell(d.below(3), 2, d.signs(n)...), cell(d.below(3), 2, d.signs(n)...)
		first, second := linesOf(n, []api.Cell{a}), linesOf(n, []api.Cell{b})
		both := slices.DeleteFunc(slices.Clone(first), func(line []int) bool {
			return !slices.ContainsFunc(second, func(other []int) bool { return slices.Equal(line, other) })
		})
		got, e := wall.Meet(list(n), []api.Cell{a}, []api.Cell{b})
		if len(both) == 0 {
			ends[0]++
			expectError(t, "Meet", got, e, api.ErrRestore)
			continue
		}
		ends[1]++
		if e != api.OK || !slices.EqualFunc(linesOf(n, got), both, slices.Equal) {
			t.Fatalf("Meet of %v and %v = %v, %d, want the lines %v", a, b, got, e, both)
		}
	}
	if ends[0] < 200 || ends[1] < 1000 {
		t.Errorf("%d cells do not meet, %d do", ends[0], ends[1])
	}
}

// P8.12
func TestLostIsWhole(t *testing.T) {
	d := dice(17)
	for range 200 {
		n, cells, parallel := d.scene()
		r := restore(t, list(n), cells, parallel)
		got, e := wall.Lost(list(n), cells, r)
		if e != api.OK || len(got) != len(cells) || !slices.Equal(slices.Concat(got...), r.Signs) {
			t.Fatalf("Lost of %v and %v = %v, %d", cells, r, got, e)
		}
		for c, stretch := range got {
			if len(stretch) < cells[c].Min || len(stretch) > cells[c].Max {
				t.Fatalf("Lost of %v and %v = %v", cells, r, got)
			}
		}
	}
}

// arguments are those of all functions of the package.
type arguments struct {
	l              api.List
	a, b           []api.Cell
	marks          []api.Mark
	alike          [][]int
	layer, most    int
	line, parallel []int
	parallels      [][]int
	r              api.Restored
}

// by returns equal arguments whose lists of numbers are made by a function, and
// whose other lists are new.
func (a arguments) by(numbers func([]int) []int) arguments {
	a.l.Signs = append(a.l.Signs[:0:0], a.l.Signs...)
	cells := func(of []api.Cell) []api.Cell {
		of = slices.Clone(of)
		for i := range of {
			of[i].Signs = numbers(of[i].Signs)
		}
		return of
	}
	lists := func(of [][]int) [][]int {
		of = slices.Clone(of)
		for i := range of {
			of[i] = numbers(of[i])
		}
		return of
	}
	a.a, a.b, a.marks = cells(a.a), cells(a.b), slices.Clone(a.marks)
	a.alike, a.parallels = lists(a.alike), lists(a.parallels)
	a.line, a.parallel = numbers(a.line), numbers(a.parallel)
	a.r.Signs, a.r.Cells, a.r.Source = numbers(a.r.Signs), numbers(a.r.Cells), numbers(a.r.Source)
	return a
}

func (a arguments) clone() arguments {
	return a.by(func(of []int) []int { return slices.Clone(of) })
}

// number returns a number that often is out of some bounds.
func (d *dice) number() int {
	numbers := []int{0, 1, 2, 3, 9, 10, 40, 41, 60, 61, 64, 65, 200, -1, -2, math.MinInt, math.MaxInt}
	return numbers[d.below(len(numbers))]
}

// arguments returns arguments that are valid in many cases.
func (d *dice) arguments() arguments {
	n := 1 + d.below(4)
	a := arguments{l: list(n), a: d.cells(n, 5, 4), layer: d.below(2), most: 1 + d.below(64)}
	a.b = slices.Clone(a.a)
	for i := range a.b {
		a.b[i].Signs = d.signs(n)
	}
	for range d.below(5) {
		a.marks = append(a.marks, api.Mark{Sign: d.below(n), State: d.below(4)}, api.Mark{Sign: -1, Max: d.below(3)})
		a.alike = append(a.alike, d.line(n, 4))
		a.parallels = append(a.parallels, d.line(n, 9))
	}
	a.line, a.parallel = d.fill(n, a.a), d.line(n, 9)
	if r, e := wall.Restore(a.l, a.a, a.parallel); e == api.OK {
		a.r = r
	}
	d.upset(&a)
	return a
}

// upset makes arguments not valid in some cases.
func (d *dice) upset(a *arguments) {
	switch d.below(16) {
	case 0:
		a.l.Periods = d.number()
	case 1:
		a.a = append(a.a, api.Cell{Min: d.number(), Max: d.number(), Signs: []int{d.number()}})
	case 2:
		a.b = append(a.b, api.Cell{Min: d.number(), Max: d.number(), Signs: []int{d.number(), d.number()}})
	case 3:
		a.marks = append(a.marks, api.Mark{Sign: d.number(), State: d.number(), Min: d.number(), Max: d.number()})
	case 4:
		a.alike = append(a.alike, []int{d.number()})
	case 5:
		a.layer, a.most = d.number(), d.number()
	case 6:
		a.line = append(a.line, d.number())
	case 7:
		a.parallel = append(a.parallel, d.number())
		a.parallels = append(a.parallels, a.parallel)
	case 8:
		a.r.Cells = append(slices.Clone(a.r.Cells), d.number())
	case 9:
		a.r = api.Restored{Signs: []int{d.number()}, Cells: []int{d.number()}, Source: []int{d.number()}, Changes: d.number()}
	case 10:
		a.marks, a.parallels = slices.Repeat(a.marks, 30), slices.Repeat(a.parallels, 30)
	case 11:
		a.line, a.parallel = slices.Repeat(a.line, 30), slices.Repeat(a.parallel, 30)
	case 12:
		a.l.Signs = nil
	}
}

// calls are the results of all functions of the package.
func calls(a arguments) [][]any {
	var all [][]any
	add := func(results ...any) { all = append(all, results) }
	add(wall.Check(a.l, a.a))
	cells, e := wall.Of(a.l, a.marks, a.alike, a.layer)
	add(cells, e)
	division, e := wall.Agrees(a.l, a.a, a.line)
	add(division, e)
	n, pairs, e := wall.Changes(a.l, a.parallel, a.line)
	add(n, pairs, e)
	n, e = wall.Count(a.l, a.a)
	add(n, e)
	list, e := wall.List(a.l, a.a, a.parallel, a.most)
	add(list, e)
	r, e := wall.Restore(a.l, a.a, a.parallel)
	add(r, e)
	which, r, e := wall.Choose(a.l, a.a, a.parallels)
	add(which, r, e)
	add(wall.Verify(a.l, a.a, a.parallel, a.r))
	lost, e := wall.Lost(a.l, a.a, a.r)
	add(lost, e)
	sure, e := wall.Certain(a.l, a.a, a.parallel)
	add(sure, e)
	cells, e = wall.Meet(a.l, a.a, a.b)
	add(cells, e)
	return all
}

// P0.1 and R4: no argument makes a function panic, the results depend on the
// arguments alone, and no argument is changed.
func TestAnyArguments(t *testing.T) {
	d := dice(20)
	for range 1500 {
		a := d.arguments()
		b := a.clone()
		first := calls(a)
		if !reflect.DeepEqual(a, b) {
			t.Fatalf("calls with %v change an argument", b)
		}
		if second := calls(b); !reflect.DeepEqual(first, second) {
			t.Fatalf("calls with %v give %v, then %v", a, first, second)
		}
	}
}

// R2: with an error every other result is its zero value.
func TestZeroWithError(t *testing.T) {
	d := dice(21)
	failed := map[int]int{}
	for range 1500 {
		for i, results := range calls(d.arguments()) {
			last := len(results) - 1
			e, ok := results[last].(api.Errno)
			if !ok || e == api.OK {
				continue
			}
			failed[i]++
			for _, r := range results[:last] {
				expectError(t, "a call", r, e, e)
			}
		}
	}
	for i := range 12 {
		if failed[i] < 50 {
			t.Errorf("call %d failed only %d times", i, failed[i])
		}
	}
}

// R3: nil lists and empty ones are the same in arguments.
func TestNilAndEmpty(t *testing.T) {
	d := dice(22)
	for range 500 {
		a := d.arguments()
		switch d.below(4) {
		case 0:
			a.a, a.line, a.r = nil, nil, api.Restored{}
		case 1:
			a.l.Signs, a.parallel, a.marks = nil, nil, nil
		case 2:
			a.parallels, a.alike = [][]int{nil}, [][]int{nil}
		}
		b := a.by(func(of []int) []int { return append([]int{}, of...) })
		b.l.Signs = append([]api.Sign{}, b.l.Signs...)
		b.a, b.b = append([]api.Cell{}, b.a...), append([]api.Cell{}, b.b...)
		b.marks = append([]api.Mark{}, b.marks...)
		first, second := calls(a), calls(b)
		for i := range first {
			if !alike(first[i], second[i]) {
				t.Fatalf("call %d with nil lists %v gives %v, with empty ones %v", i, a, first[i], second[i])
			}
		}
	}
}

// alike reports whether results are equal, whatever lists of them are nil.
func alike(a, b []any) bool {
	return slices.EqualFunc(a, b, func(x, y any) bool { return sameValue(reflect.ValueOf(x), reflect.ValueOf(y)) })
}

func sameValue(x, y reflect.Value) bool {
	switch x.Kind() {
	case reflect.Slice:
		if x.Len() != y.Len() {
			return false
		}
		for i := range x.Len() {
			if !sameValue(x.Index(i), y.Index(i)) {
				return false
			}
		}
		return true
	case reflect.Struct:
		for i := range x.NumField() {
			if !sameValue(x.Field(i), y.Field(i)) {
				return false
			}
		}
		return true
	}
	return x.Int() == y.Int()
}

// scrawl overwrites all memory of a list, and of what is behind it.
func scrawl(of []int) {
	for i := range of[:cap(of)] {
		of[:cap(of)][i] = -99
	}
}

// expectApart writes over one list after the other, each of which must still be
// what it was.
func expectApart(t *testing.T, what string, lists ...[]int) {
	t.Helper()
	var want [][]int
	for _, numbers := range lists {
		want = append(want, slices.Clone(numbers))
	}
	for i, numbers := range lists {
		if !slices.Equal(numbers, want[i]) {
			t.Fatalf("the list %d of %s shares memory with one before it", i, what)
		}
		scrawl(numbers)
	}
}

func partsOf(r api.Restored) [][]int { return [][]int{r.Signs, r.Cells, r.Source} }

func signsOf(cells []api.Cell) [][]int {
	var all [][]int
	for _, c := range cells {
		all = append(all, c.Signs)
	}
	return all
}

// R4: the parts of a result share no memory with each other.
func TestApart(t *testing.T) {
	d := dice(23)
	for range 300 {
		a := d.arguments()
		if cells, e := wall.Of(a.l, a.marks, a.alike, a.layer); e == api.OK {
			expectApart(t, "Of", signsOf(cells)...)
		}
		if list, e := wall.List(a.l, a.a, a.parallel, a.most); e == api.OK {
			var all [][]int
			for _, r := range list {
				all = append(all, partsOf(r)...)
			}
			expectApart(t, "List", all...)
		}
		if _, r, e := wall.Choose(a.l, a.a, a.parallels); e == api.OK {
			expectApart(t, "Choose", partsOf(r)...)
		}
		if lost, e := wall.Lost(a.l, a.a, a.r); e == api.OK {
			expectApart(t, "Lost", lost...)
		}
		if cells, e := wall.Meet(a.l, a.a, a.b); e == api.OK {
			expectApart(t, "Meet", signsOf(cells)...)
		}
		if cells, e := wall.Meet(a.l, a.a, a.a); e == api.OK {
			expectApart(t, "Meet with itself", signsOf(cells)...)
		}
	}
}

// R4: what is written into a result changes no argument.
func TestResultsAreNew(t *testing.T) {
	d := dice(24)
	for range 300 {
		a := d.arguments()
		b := a.clone()
		for _, results := range calls(a) {
			for _, r := range results {
				scrawlAll(reflect.ValueOf(r))
			}
		}
		if !reflect.DeepEqual(a, b) {
			t.Fatalf("a result of the calls with %v is part of an argument", b)
		}
	}
}

// scrawlAll overwrites all numbers in all lists of a result.
func scrawlAll(v reflect.Value) {
	switch v.Kind() {
	case reflect.Slice:
		if numbers, ok := v.Interface().([]int); ok {
			scrawl(numbers)
			return
		}
		for i := range v.Len() {
			scrawlAll(v.Index(i))
		}
	case reflect.Struct:
		for i := range v.NumField() {
			scrawlAll(v.Field(i))
		}
	}
}

const room = 3

// roomy is an equal list behind which there is memory of somebody else.
func roomy(of []int) []int {
	return append(slices.Clip(of), make([]int, room)...)[:len(of)]
}

// touched reports whether somebody has written behind a list.
func touched(of []int) bool {
	return slices.ContainsFunc(of[len(of):len(of)+room], func(n int) bool { return n != 0 })
}

// numbers are all lists of numbers of the arguments.
func (a arguments) numbers() [][]int {
	all := [][]int{a.line, a.parallel, a.r.Signs, a.r.Cells, a.r.Source}
	return slices.Concat(all, signsOf(a.a), signsOf(a.b), a.alike, a.parallels)
}

// R4: nothing behind the lists of an argument is changed.
func TestMemoryBehindLists(t *testing.T) {
	d := dice(25)
	for range 300 {
		a := d.arguments().by(roomy)
		marks, cells := append(slices.Clone(a.marks), api.Mark{}), append(slices.Clone(a.a), api.Cell{})
		a.marks, a.a = marks[:len(marks)-1], cells[:len(cells)-1]
		calls(a)
		if marks[len(a.marks)] != (api.Mark{}) || !sameCell(cells[len(a.a)], api.Cell{}) || slices.ContainsFunc(a.numbers(), touched) {
			t.Fatalf("calls with %v write behind a list", a)
		}
	}
}

// The values, sizes and codes of the signs do not matter to a wall, nor do the
// numbers of periods.
func TestSignsAreNumbers(t *testing.T) {
	d := dice(26)
	for range 200 {
		a := d.arguments()
		if wall.Check(a.l, nil) != api.OK {
			continue
		}
		b := a.clone()
		b.l.Periods = 9
		for i := range b.l.Signs {
			b.l.Signs[i] = api.Sign{Code: "Z" + string(rune('a'+i)), Wide: 12, High: 3, Even: true, Values: []api.Value{{Kind: api.Class, Text: "man", From: 2, To: 3}}}
		}
		if first, second := calls(a), calls(b); !reflect.DeepEqual(first, second) {
			t.Fatalf("calls with %v give %v, with other signs %v", a, first, second)
		}
	}
}

// P0.1: the greatest walls take no long time.
func TestGreatWalls(t *testing.T) {
	d := dice(27)
	const n = 200
	l := list(n)
	for range 6 {
		var cells []api.Cell
		for len(cells) < 30 {
			cells = append(cells, cell(d.below(2), 2, d.signs(n)...))
		}
		parallel := append(d.fill(n, cells), d.line(n, 60)...)
		parallel = parallel[:min(60, len(parallel))]
		all, e := wall.List(l, cells, parallel, 64)
		if e != api.OK || len(all) != 64 {
			t.Fatalf("List of %v by %v has %d restorations, %d", cells, parallel, len(all), e)
		}
		if lines, e := wall.Count(l, cells); lines != api.MaxCount || e != api.OK {
			t.Errorf("Count of %v = %d, %d", cells, lines, e)
		}
		if sure, e := wall.Certain(l, cells, parallel); e != api.OK && e != api.ErrMany || e == api.OK && len(sure) != 30 {
			t.Errorf("Certain of %v by %v = %v, %d", cells, parallel, sure, e)
		}
	}
}
