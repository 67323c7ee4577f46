package copies_test

import (
	"math"
	"reflect"
	"slices"
	"testing"

	"ostracon/api"
	"ostracon/copies"
)

// taken returns how many places of each line a pair takes.
func taken(p api.Pair) (left, right int) {
	if p.Left != -1 {
		left = 1
	}
	if p.Right != -1 {
		right = 1
	}
	return left, right
}

func align(t *testing.T, a, b []int) (pairs []api.Pair, cost int) {
	t.Helper()
	pairs, cost, e := copies.Align(a, b)
	if e != api.OK {
		t.Fatalf("Align of %v and %v: %d", a, b, e)
	}
	return pairs, cost
}

// P9.1 and P9.5: long lines have an alignment too, which has the least cost and
// is the first one.
func TestAlignOfLongLines(t *testing.T) {
	d := dice(10)
	for range 150 {
		a, b := d.couple(api.MaxLine)
		pairs, cost := align(t, a, b)
		if want := least(a, b); cost != want || price(a, b, pairs) != want {
			t.Fatalf("Align of %v and %v = %v, %d, want the cost %d", a, b, pairs, cost, want)
		}
		if _, back := align(t, b, a); back != cost {
			t.Fatalf("Align of %v and %v costs %d, the other way %d", a, b, cost, back)
		}
		expectFirst(t, a, b, pairs)
	}
}

// expectFirst reports an error unless all places of two lines are paired, and no
// pair that would come earlier leads to an alignment with the least cost.
func expectFirst(t *testing.T, a, b []int, pairs []api.Pair) {
	t.Helper()
	ahead, behind := slices.Clone(a), slices.Clone(b)
	slices.Reverse(ahead)
	slices.Reverse(behind)
	rest := prices(ahead, behind)
	i, j := 0, 0
	for _, p := range pairs {
		for _, other := range []api.Pair{pair(i, j), pair(i, -1), pair(-1, j)} {
			if other == p {
				break
			}
			left, right := taken(other)
			if i+left > len(a) || j+right > len(b) {
				continue
			}
			if price(a, b, []api.Pair{other})+rest[len(a)-i-left][len(b)-j-right] == rest[len(a)-i][len(b)-j] {
				t.Fatalf("Align of %v and %v has %v, but %v comes before it", a, b, p, other)
			}
		}
		left, right := taken(p)
		if left == 1 && p.Left != i || right == 1 && p.Right != j || left+right == 0 {
			t.Fatalf("Align of %v and %v has %v at %d and %d", a, b, p, i, j)
		}
		i, j = i+left, j+right
	}
	if i != len(a) || j != len(b) {
		t.Fatalf("Align of %v and %v ends at %d and %d", a, b, i, j)
	}
}

// P9.5
func TestAlignOfEqualLines(t *testing.T) {
	d := dice(11)
	for range 1000 {
		a, b := d.couple(4)
		if _, cost := align(t, a, b); (cost == 0) != slices.Equal(a, b) {
			t.Fatalf("Align of %v and %v costs %d", a, b, cost)
		}
	}
}

// P9.6
func TestApplyAllOrNone(t *testing.T) {
	d := dice(12)
	for range 400 {
		base, other := d.couple(api.MaxLine)
		all, e := copies.Variants(base, [][]int{other})
		if e != api.OK {
			t.Fatalf("Variants of %v and %v: %d", base, other, e)
		}
		got, e := copies.Apply(base, other, slices.Repeat([]bool{true}, len(all)))
		expect(t, "Apply of all", got, e, other)
		got, e = copies.Apply(base, other, make([]bool, len(all)))
		expect(t, "Apply of none", got, e, base)
		none, e := copies.Variants(base, [][]int{base, base})
		expect(t, "Variants of the base itself", none, e, nil)
		replaced, written := 0, 0
		for i, v := range all {
			n, e := copies.Extent(base, other, v.At)
			if e != api.OK || n+len(v.Signs) == 0 || i > 0 && all[i-1].At >= v.At {
				t.Fatalf("the variant %d of %v replaces %d signs, %d", i, all, n, e)
			}
			replaced, written = replaced+n, written+len(v.Signs)
		}
		if len(base)-replaced != len(other)-written {
			t.Fatalf("%v replace %d of %v", all, replaced, base)
		}
	}
}

// P9.7
func TestFisherOfExchanged(t *testing.T) {
	d := dice(13)
	empty := 0
	for range 2000 {
		a, b := d.tallies(api.MaxTally)
		if d.below(3) == 0 {
			a, b = d.tallies(3)
		}
		c, e := copies.Fisher(a, b)
		if e != api.OK || c.Num < 1 || c.Num > c.Den {
			t.Fatalf("Fisher of %v and %v = %v, %d", a, b, c, e)
		}
		got, e := copies.Fisher(b, a)
		expect(t, "Fisher of tallies that are exchanged", got, e, c)
		got, e = copies.Fisher(tally(a.Two, a.One), tally(b.Two, b.One))
		expect(t, "Fisher of variants that are exchanged", got, e, c)
		if a.One+b.One == 0 || a.Two+b.Two == 0 || a.One+a.Two == 0 || b.One+b.Two == 0 {
			empty++
			expect(t, "Fisher of an empty sum", c, api.OK, chance(1, 1))
		}
	}
	if empty < 100 {
		t.Errorf("only %d sums are empty", empty)
	}
}

// P9.8
func TestHandsKeepApart(t *testing.T) {
	d := dice(14)
	alone := 0
	for range 500 {
		all, limit := d.features(d.below(api.MaxCopies+1)), chance(1, 1+d.below(50))
		hands, e := copies.Hands(all, limit)
		if e != api.OK || len(hands) != len(all) {
			t.Fatalf("Hands of %v = %v, %d", all, hands, e)
		}
		near := make([]int, len(all))
		for _, x := range apartOf(t, all, limit) {
			if hands[x[0]] == hands[x[1]] {
				t.Fatalf("Hands of %v = %v, but %v are apart", all, hands, x)
			}
			near[x[0]]++
			near[x[1]]++
		}
		for i, n := range near {
			if n > 0 {
				continue
			}
			if alone++; hands[i] != 0 {
				t.Fatalf("Hands of %v = %v, but %d is apart from none", all, hands, i)
			}
		}
	}
	if alone < 100 {
		t.Errorf("only %d copies are apart from none", alone)
	}
}

// P9.9
func TestJoinIsAcceptedByLines(t *testing.T) {
	d := dice(15)
	seen := 0
	for range 500 {
		blocks := d.blocks(api.MaxBlocks)
		if d.below(10) == 0 {
			blocks = equals(1+d.below(api.MaxBlocks), 1)
		}
		most := 1 + d.below(api.MaxList)
		rows, e := copies.Join(blocks, most)
		n, e2 := copies.Count(blocks)
		if e2 != api.OK || len(rows) != min(n, most) || (e == api.OK) != (n > 0) {
			t.Fatalf("Join of %v = %v, %d, but Count is %d, %d", blocks, rows, e, n, e2)
		}
		for i, row := range rows {
			if _, e := copies.Lines(blocks, row); e != api.OK && e != api.ErrMany || len(row) != len(blocks) {
				t.Fatalf("Lines of %v and %v: %d", blocks, row, e)
			}
			if i > 0 && slices.Compare(rows[i-1], row) >= 0 {
				t.Fatalf("Join of %v has %v before %v", blocks, rows[i-1], row)
			}
			seen++
		}
	}
	if seen < 1000 {
		t.Errorf("only %d rows are seen", seen)
	}
}

// P9.10
func TestOrderOfBlocks(t *testing.T) {
	d := dice(16)
	seen := 0
	for range 300 {
		blocks := d.blocks(6)
		n, e := copies.Count(blocks)
		if e != api.OK {
			t.Fatalf("Count of %v: %d", blocks, e)
		}
		all := orders(len(blocks))
		var other []api.Block
		for _, b := range all[d.below(len(all))] {
			other = append(other, blocks[b])
		}
		got, e := copies.Count(other)
		expect(t, "Count in another order", got, e, n)
		rows, _ := copies.Join(blocks, 3)
		for _, row := range rows {
			lines, e := copies.Lines(blocks, row)
			if e != api.OK {
				continue
			}
			var want []int
			for _, b := range blocks {
				want = append(want, slices.Concat(b.Rows...)...)
			}
			signs := slices.Concat(lines...)
			slices.Sort(signs)
			slices.Sort(want)
			expect(t, "the signs of Lines", signs, api.OK, want)
			seen++
		}
	}
	if seen < 100 {
		t.Errorf("only %d rows are seen", seen)
	}
}

// arguments are those of all functions of the package.
type arguments struct {
	Base, Other []int
	Others      [][]int
	Choose      []bool
	A, B        api.Tally
	As, Bs      []api.Tally
	Copies      [][]api.Tally
	Limit       copies.Chance
	Blocks      []api.Block
	Row         []int
	At          int
	Left, Right int
	Most        int
}

// number returns a number that often is out of some bounds.
func (d *dice) number() int {
	numbers := []int{0, 1, 2, 3, 8, 9, 12, 13, 60, 61, 64, 65, 1000, 1001, -1, -2, math.MinInt, math.MaxInt}
	return numbers[d.below(len(numbers))]
}

// arguments returns arguments that are valid in many cases.
func (d *dice) arguments() arguments {
	a := arguments{Limit: chance(1, 20), Copies: d.features(d.below(5)), Blocks: d.blocks(4), At: d.below(3), Most: 1 + d.below(64)}
	a.Base, a.Other = d.couple(8)
	for range d.below(4) {
		a.Others = append(a.Others, d.copied(5, a.Base, 3))
	}
	if all, e := copies.Variants(a.Base, [][]int{a.Other}); e == api.OK {
		for range all {
			a.Choose = append(a.Choose, d.below(2) == 0)
		}
	}
	a.A, a.B = d.tallies(api.MaxTally)
	if pair := d.features(2); d.below(8) > 0 {
		a.As, a.Bs = pair[0], pair[1]
	}
	if rows, e := copies.Join(a.Blocks, 9); e == api.OK {
		a.Row = rows[d.below(len(rows))]
	}
	a.Left, a.Right = d.below(4), d.below(4)
	d.upset(&a)
	return a
}

// upset makes arguments not valid in some cases.
func (d *dice) upset(a *arguments) {
	switch d.below(16) {
	case 0:
		a.Base = append(a.Base, d.number())
	case 1:
		a.Other = append(a.Other, d.number())
	case 2:
		a.Others = append(a.Others, []int{d.number()}, slices.Repeat(a.Base, 12))
	case 3:
		a.Choose = append(a.Choose, true)
	case 4:
		a.A, a.B = tally(d.number(), d.number()), tally(d.number(), d.number())
	case 5:
		a.As, a.Bs = append(a.As, tally(d.number(), d.number())), append(a.Bs, tally(0, 0))
	case 6:
		a.Copies = append(a.Copies, []api.Tally{tally(d.number(), d.number())})
	case 7:
		a.Limit = chance(d.number(), d.number())
	case 8:
		a.Blocks = append(a.Blocks, api.Block{Left: []int{d.number()}, Right: []int{d.number()}, Rows: [][]int{{d.number()}}})
	case 9:
		a.Row = append(a.Row, d.number())
	case 10:
		a.At, a.Left, a.Right, a.Most = d.number(), d.number(), d.number(), d.number()
	case 11:
		a.Base, a.Row = slices.Repeat(a.Base, 30), slices.Repeat(a.Row, 30)
	case 12:
		a.Copies, a.Blocks, a.As = slices.Repeat(a.Copies, 3), slices.Repeat(a.Blocks, 3), slices.Repeat(a.As, 9)
	}
}

// calls are the results of all functions of the package.
func calls(a arguments) [][]any {
	pairs, cost, e1 := copies.Align(a.Base, a.Other)
	variants, e2 := copies.Variants(a.Base, a.Others)
	extent, e3 := copies.Extent(a.Base, a.Other, a.At)
	line, e4 := copies.Apply(a.Base, a.Other, a.Choose)
	chance, e5 := copies.Fisher(a.A, a.B)
	apart, e6 := copies.Apart(a.As, a.Bs, a.Limit)
	hands, e7 := copies.Hands(a.Copies, a.Limit)
	e8 := copies.CheckBlocks(a.Blocks)
	fit, e9 := copies.Fit(a.Blocks, a.Left, a.Right)
	rows, e10 := copies.Join(a.Blocks, a.Most)
	n, e11 := copies.Count(a.Blocks)
	lines, e12 := copies.Lines(a.Blocks, a.Row)
	return [][]any{{pairs, cost, e1}, {variants, e2}, {extent, e3}, {line, e4}, {chance, e5}, {apart, e6}, {hands, e7}, {e8}, {fit, e9}, {rows, e10}, {n, e11}, {lines, e12}}
}

// remade returns an equal value whose lists are new and not nil, with room for
// some more elements behind each.
func remade[T any](x T, room int) T {
	return remadeValue(reflect.ValueOf(x), room).Interface().(T)
}

func remadeValue(v reflect.Value, room int) reflect.Value {
	switch v.Kind() {
	case reflect.Slice:
		list := reflect.MakeSlice(v.Type(), v.Len(), v.Len()+room)
		for i := range v.Len() {
			list.Index(i).Set(remadeValue(v.Index(i), room))
		}
		return list
	case reflect.Struct:
		made := reflect.New(v.Type()).Elem()
		for i := range v.NumField() {
			made.Field(i).Set(remadeValue(v.Field(i), room))
		}
		return made
	}
	return v
}

// touched reports whether somebody has written behind a list of a value.
func touched(v reflect.Value) bool {
	switch v.Kind() {
	case reflect.Slice:
		for i := v.Len(); i < v.Cap(); i++ {
			if !v.Slice(0, v.Cap()).Index(i).IsZero() {
				return true
			}
		}
		for i := range v.Len() {
			if touched(v.Index(i)) {
				return true
			}
		}
	case reflect.Struct:
		for i := range v.NumField() {
			if touched(v.Field(i)) {
				return true
			}
		}
	}
	return false
}

// lists returns all lists of numbers or pairs in results.
func lists(v reflect.Value) []reflect.Value {
	var all []reflect.Value
	switch v.Kind() {
	case reflect.Interface:
		return lists(v.Elem())
	case reflect.Slice:
		if k := v.Type().Elem(); k.Kind() == reflect.Int || k == reflect.TypeFor[api.Pair]() {
			return []reflect.Value{v}
		}
		for i := range v.Len() {
			all = append(all, lists(v.Index(i))...)
		}
	case reflect.Struct:
		for i := range v.NumField() {
			all = append(all, lists(v.Field(i))...)
		}
	}
	return all
}

// scrawl overwrites all memory of a list, and of what is behind it.
func scrawl(list reflect.Value) {
	other := reflect.New(list.Type().Elem()).Elem()
	if other.Kind() == reflect.Int {
		other.SetInt(-99)
	} else {
		other.Set(reflect.ValueOf(pair(-99, -99)))
	}
	for i := range list.Cap() {
		list.Slice(0, list.Cap()).Index(i).Set(other)
	}
}

// P0.1 and R4: no argument makes a function panic, the results depend on the
// arguments alone, and no argument is changed.
func TestAnyArguments(t *testing.T) {
	d := dice(20)
	for range 2000 {
		a := d.arguments()
		b := remade(a, 0)
		first := calls(a)
		if !same(a, b) {
			t.Fatalf("calls with %v change an argument", b)
		}
		if second := calls(a); !reflect.DeepEqual(first, second) {
			t.Fatalf("calls with %v give %v, then %v", a, first, second)
		}
	}
}

// R2: with an error every other result is its zero value.
func TestZeroWithError(t *testing.T) {
	d := dice(21)
	failed := map[int]int{}
	for range 3000 {
		for i, results := range calls(d.arguments()) {
			last := len(results) - 1
			if results[last] == api.OK {
				continue
			}
			failed[i]++
			for _, r := range results[:last] {
				if !same(r, reflect.Zero(reflect.TypeOf(r)).Interface()) {
					t.Fatalf("call %d gives %v", i, results)
				}
			}
		}
	}
	for i := range 12 {
		if failed[i] < 50 {
			t.Errorf("call %d failed only %d times", i, failed[i])
		}
	}
}

// R3 and R4: nil lists and empty ones are the same in arguments, and nothing
// behind a list is changed.
func TestNilAndEmpty(t *testing.T) {
	d := dice(22)
	for range 1000 {
		a := d.arguments()
		switch d.below(5) {
		case 0:
			a.Base, a.Copies, a.Row = nil, nil, nil
		case 1:
			a.Other, a.Others, a.Blocks = nil, nil, nil
		case 2:
			a.Choose, a.As, a.Bs = nil, nil, nil
		case 3:
			a.Others, a.Copies, a.Blocks = make([][]int, 2), make([][]api.Tally, 1), []api.Block{{Rows: make([][]int, 2)}}
		}
		first := calls(a)
		for _, room := range []int{0, 3} {
			b := remade(a, room)
			second := calls(b)
			for i := range first {
				if !same(first[i], second[i]) {
					t.Fatalf("call %d with nil lists %v gives %v, with empty ones %v", i, a, first[i], second[i])
				}
			}
			if touched(reflect.ValueOf(b)) {
				t.Fatalf("calls with %v write behind a list", a)
			}
		}
	}
}

// R4: what is written into a part of a result changes no argument and no other
// part.
func TestResultsAreNew(t *testing.T) {
	d := dice(23)
	for range 600 {
		a := d.arguments()
		if d.below(2) == 0 && len(a.Others) > 0 {
			a.Others = append(a.Others, a.Others[0]) // the same memory
		}
		b := remade(a, 0)
		for i, results := range calls(a) {
			parts := lists(reflect.ValueOf(results))
			var want []any
			for _, part := range parts {
				want = append(want, remadeValue(part, 0).Interface())
			}
			for p, part := range parts {
				if !same(part.Interface(), want[p]) {
					t.Fatalf("the list %d of call %d shares memory with one before it", p, i)
				}
				scrawl(part)
			}
		}
		if !same(a, b) {
			t.Fatalf("a result of the calls with %v is part of an argument", b)
		}
	}
}

// Signs are any numbers: other ones in their place give the same results.
func TestSignsAreNumbers(t *testing.T) {
	d := dice(24)
	renamed := func(line []int) []int {
		line = slices.Clone(line)
		for i := range line {
			line[i] = math.MaxInt - line[i]*line[i]
		}
		return line
	}
	for range 500 {
		a, b := d.couple(20)
		pairs, cost, e := copies.Align(a, b)
		again, cost2, e2 := copies.Align(renamed(a), renamed(b))
		if !same(pairs, again) || cost != cost2 || e != e2 {
			t.Fatalf("Align of %v and %v = %v, %d, with other signs %v, %d", a, b, pairs, cost, again, cost2)
		}
	}
}
