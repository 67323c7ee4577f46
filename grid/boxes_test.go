package grid_test

import (
	"math"
	"math/big"
	"slices"
	"testing"

	"ostracon/api"
	"ostracon/grid"
)

const (
	maxNum = api.MaxNum
	maxDen = api.MaxDen
)

// badFracs are not valid.
func badFracs() []api.Frac {
	return []api.Frac{
		{}, f(0, 2), f(1, 0), f(2, 4), f(-2, 4), f(6, 3), f(1, -1), f(-1, -2), f(1, maxDen+1), f(maxNum+1, 1), f(-maxNum-1, 1), f(maxNum+2, 2),
		f(math.MinInt, 1), f(math.MaxInt, 1), f(1, math.MinInt), f(1, math.MaxInt), f(math.MinInt, math.MinInt), f(0, math.MinInt), f(maxNum, 32767*2),
	}
}

// goodFracs are valid, and many of them as large or as fine as they may be.
func goodFracs() []api.Frac {
	return []api.Frac{
		n(0), n(1), n(-1), f(1, 2), f(-1, 2), f(2, 3), f(3, 2), n(maxNum), n(-maxNum), n(maxNum - 1), f(1, maxDen), f(-1, maxDen), f(1, maxDen-1),
		f(maxNum, maxDen), f(-maxNum, maxDen), f(maxNum-2, maxDen-1), f(maxDen-1, maxDen), f(maxDen-2, maxDen-1),
	}
}

// P4.11
func TestLess(t *testing.T) {
	for _, a := range goodFracs() {
		for _, b := range goodFracs() {
			want := ratOf(a).Cmp(ratOf(b)) < 0
			if got, e := grid.Less(a, b); got != want || e != api.OK {
				t.Errorf("Less(%v, %v) = %v, %d", a, b, got, e)
			}
		}
		for _, b := range badFracs() {
			for _, pair := range [][2]api.Frac{{a, b}, {b, a}, {b, b}} {
				if got, e := grid.Less(pair[0], pair[1]); got || e != api.ErrArg {
					t.Errorf("Less(%v, %v) = %v, %d", pair[0], pair[1], got, e)
				}
			}
		}
	}
}

func unit() api.Box { return area(n(0), n(0), n(1), n(1)) }

// unplaced are boxes that are not placed.
func unplaced() []api.Box {
	boxes := []api.Box{
		{},
		area(n(0), n(0), n(0), n(1)), area(n(0), n(0), n(1), n(0)), area(n(0), n(0), n(-1), n(1)), area(n(0), n(0), n(1), f(-1, 2)),
		// The sums are no valid fractions.
		area(n(maxNum), n(0), n(1), n(1)), area(n(0), n(maxNum), n(1), n(1)), area(f(1, 2), n(0), n(maxNum), n(1)), area(n(0), f(1, 2), n(1), n(maxNum)),
		area(f(1, maxDen), n(0), f(1, maxDen-1), n(1)), area(n(0), f(1, maxDen), n(1), f(1, 3)),
	}
	for _, bad := range badFracs() {
		boxes = append(boxes, area(bad, n(0), n(1), n(1)), area(n(0), bad, n(1), n(1)), area(n(0), n(0), bad, n(1)), area(n(0), n(0), n(1), bad))
	}
	return boxes
}

// placed are boxes that are placed, though only just.
func placed() []api.Box {
	return []api.Box{
		area(n(maxNum-1), n(-maxNum), n(1), n(maxNum)), area(n(-maxNum), n(maxNum-1), n(maxNum), n(1)),
		// The sums are reduced.
		area(f(1, maxDen), n(0), f(maxDen-1, maxDen), n(1)), area(n(0), f(-1, maxDen), n(1), f(3, maxDen)), area(f(1, 6), f(1, 10), f(1, 3), f(1, 15)),
		area(f(1, 256), f(-1, 128), f(1, 127), f(1, 255)),
		// The kind of the node does not matter.
		{Kind: -1, Sign: -1, Min: 5, X: n(0), Y: n(0), W: n(1), H: n(1)},
	}
}

// P4.8 to P4.10: which boxes are placed, and how many there may be.
func TestPlaced(t *testing.T) {
	expect := func(what any, boxes []api.Box, want api.Errno) {
		t.Helper()
		x, y, w, h, e := grid.Extent(boxes)
		hit, f := grid.Hit(boxes, n(0), n(0))
		pairs, g := grid.Crossing(boxes)
		if e != want || f != want || g != want {
			t.Errorf("with %v Extent, Hit and Crossing give the errors %d, %d, %d, want %d", what, e, f, g, want)
		}
		if want != api.OK && (x != api.Frac{} || y != x || w != x || h != x || len(hit) != 0 || len(pairs) != 0) {
			t.Errorf("with %v the results are %v, %v, %v, %v, %v, %v", what, x, y, w, h, hit, pairs)
		}
	}
	for _, b := range placed() {
		expect(b, []api.Box{b}, api.OK)
	}
	for _, b := range unplaced() {
		expect(b, []api.Box{b}, api.ErrBoxes)
		expect(b, []api.Box{unit(), b}, api.ErrBoxes)
	}
	expect("200 boxes", slices.Repeat([]api.Box{unit()}, 200), api.OK)
	expect("201 boxes", slices.Repeat([]api.Box{unit()}, 201), api.ErrMany)
	expect("201 boxes that are not placed", make([]api.Box, 201), api.ErrMany)
}

// P4.8
func TestExtent(t *testing.T) {
	for _, c := range []struct {
		what  string
		boxes []api.Box
		want  [4]api.Frac
		e     api.Errno
	}{
		{"no boxes", nil, [4]api.Frac{}, api.ErrNone},
		{"one box", []api.Box{area(f(-1, 2), n(3), f(2, 3), n(4))}, [4]api.Frac{f(-1, 2), n(3), f(2, 3), n(4)}, api.OK},
		{"apart", []api.Box{area(n(5), n(0), n(1), n(2)), area(n(-2), n(7), n(2), n(3))}, [4]api.Frac{n(-2), n(0), n(8), n(10)}, api.OK},
		{"one within the other", []api.Box{area(n(1), n(1), n(1), n(1)), area(n(0), n(0), n(3), n(3))}, [4]api.Frac{n(0), n(0), n(3), n(3)}, api.OK},
		{"halves and thirds", []api.Box{area(f(1, 2), f(1, 3), n(1), n(1)), area(f(1, 3), f(1, 2), n(1), n(1))}, [4]api.Frac{f(1, 3), f(1, 3), f(7, 6), f(7, 6)}, api.OK},
		{"as wide as may be", []api.Box{area(n(-maxNum), n(0), n(1), n(1)), area(n(-1), n(0), n(1), n(1))}, [4]api.Frac{n(-maxNum), n(0), n(maxNum), n(1)}, api.OK},
		{"too wide", []api.Box{area(n(-maxNum), n(0), n(1), n(1)), area(n(0), n(0), n(1), n(1))}, [4]api.Frac{}, api.ErrBoxes},
		{"too high", []api.Box{area(n(0), n(maxNum-1), n(1), n(1)), area(n(0), n(-1), n(1), n(1))}, [4]api.Frac{}, api.ErrBoxes},
		{"too fine a width", []api.Box{area(f(1, maxDen), n(0), n(1), n(1)), area(f(1, 3), n(0), n(1), n(1))}, [4]api.Frac{}, api.ErrBoxes},
		{"too fine a height", []api.Box{area(n(0), f(1, maxDen), n(1), n(1)), area(n(0), f(1, 3), n(1), n(1))}, [4]api.Frac{}, api.ErrBoxes},
		{"too wide, but for the error before", []api.Box{area(n(-maxNum), n(0), n(1), n(1)), unit(), {}}, [4]api.Frac{}, api.ErrBoxes},
	} {
		x, y, w, h, e := grid.Extent(c.boxes)
		if [4]api.Frac{x, y, w, h} != c.want || e != c.e {
			t.Errorf("Extent of boxes %s = %v, %v, %v, %v, %d, want %v, %d", c.what, x, y, w, h, e, c.want, c.e)
		}
	}
}

// P4.9
func TestHit(t *testing.T) {
	boxes := []api.Box{area(n(0), n(0), n(4), n(2)), area(f(7, 2), n(-1), f(1, 2), n(3)), area(n(4), n(0), n(1), n(1)), area(n(0), n(0), n(4), n(2))}
	for _, c := range []struct {
		x, y api.Frac
		want []int
	}{
		{f(7, 2), n(1), []int{0, 1, 3}},
		{n(0), n(0), []int{0, 3}},
		{n(4), n(0), []int{2}},
		{n(4), n(1), nil},
		{n(5), n(0), nil},
		{f(-1, maxDen), n(0), nil},
		{f(99, 100), f(199, 100), []int{0, 3}},
		{n(1), n(2), nil},
		{f(7, 2), n(-1), []int{1}},
		{f(7, 2), f(-1, 2), []int{1}},
		{f(3, 1), f(-1, 2), nil},
		{n(maxNum), n(maxNum), nil},
		{n(-maxNum), f(1, maxDen), nil},
	} {
		if got, e := grid.Hit(boxes, c.x, c.y); e != api.OK || !slices.Equal(got, c.want) {
			t.Errorf("Hit(%v, %v) = %v, %d, want %v", c.x, c.y, got, e, c.want)
		}
	}
	if got, e := grid.Hit(nil, n(0), n(0)); len(got) != 0 || e != api.OK {
		t.Errorf("Hit without boxes = %v, %d", got, e)
	}
}

// P4.9: the errors, in their order.
func TestHitErrors(t *testing.T) {
	for _, bad := range badFracs() {
		for _, boxes := range [][]api.Box{nil, {unit()}} {
			if got, e := grid.Hit(boxes, bad, n(0)); len(got) != 0 || e != api.ErrArg {
				t.Errorf("Hit(%v, %v, 0) = %v, %d", boxes, bad, got, e)
			}
			if got, e := grid.Hit(boxes, n(0), bad); len(got) != 0 || e != api.ErrArg {
				t.Errorf("Hit(%v, 0, %v) = %v, %d", boxes, bad, got, e)
			}
		}
		if _, e := grid.Hit([]api.Box{{}}, bad, bad); e != api.ErrBoxes {
			t.Errorf("Hit(%v) of a box that is not placed gives the error %d", bad, e)
		}
		if _, e := grid.Hit(make([]api.Box, 201), bad, bad); e != api.ErrMany {
			t.Errorf("Hit(%v) of too many boxes gives the error %d", bad, e)
		}
	}
}

// P4.10
func TestCrossing(t *testing.T) {
	big := area(n(0), n(0), n(4), n(4))
	for _, c := range []struct {
		what    string
		boxes   []api.Box
		crosses bool
	}{
		{"the same", []api.Box{big, big}, true},
		{"one within the other", []api.Box{big, area(n(1), n(1), n(1), n(1))}, true},
		{"one within the other, at its edge", []api.Box{area(n(0), n(1), n(1), n(1)), big}, true},
		{"like a cross", []api.Box{area(n(0), n(1), n(4), n(1)), area(n(1), n(0), n(1), n(4))}, true},
		{"at a corner", []api.Box{big, area(n(3), n(3), n(4), n(4))}, true},
		{"by a little", []api.Box{big, area(f(4*maxDen-1, maxDen), n(0), n(1), n(1))}, true},
		{"with a side edge in common", []api.Box{big, area(n(4), n(0), n(4), n(4))}, false},
		{"with an upper edge in common", []api.Box{big, area(n(0), n(-1), n(4), n(1))}, false},
		{"with a corner in common", []api.Box{big, area(n(4), n(4), n(1), n(1))}, false},
		{"side by side", []api.Box{big, area(n(5), n(0), n(1), n(4))}, false},
		{"one above the other", []api.Box{big, area(n(0), n(5), n(4), n(4))}, false},
	} {
		var want []api.Pair
		if c.crosses {
			want = []api.Pair{{Left: 0, Right: 1}}
		}
		for range 2 {
			if got, e := grid.Crossing(c.boxes); e != api.OK || !slices.Equal(got, want) {
				t.Errorf("Crossing of boxes %s = %v, %d, want %v", c.what, got, e, want)
			}
			slices.Reverse(c.boxes)
		}
	}
	several := []api.Box{area(n(9), n(9), n(1), n(1)), big, area(n(3), n(0), n(4), n(1)), area(n(6), n(0), n(3), n(1)), big}
	want := []api.Pair{{Left: 1, Right: 2}, {Left: 1, Right: 4}, {Left: 2, Right: 3}, {Left: 2, Right: 4}}
	if got, e := grid.Crossing(several); e != api.OK || !slices.Equal(got, want) {
		t.Errorf("Crossing of several = %v, %d, want %v", got, e, want)
	}
	if got, e := grid.Crossing(nil); e != api.OK || len(got) != 0 {
		t.Errorf("Crossing without boxes = %v, %d", got, e)
	}
}

// area returns a placed box, often as far out as may be.
func (d *dice) area() api.Box {
	for {
		b := area(d.frac(), d.frac(), d.frac(), d.frac())
		if _, e := grid.Hit([]api.Box{b}, n(0), n(0)); e == api.OK {
			return b
		}
	}
}

func (d *dice) frac() api.Frac {
	if d.below(2) == 0 {
		return pick(d, goodFracs()...)
	}
	return frac(rat(d.below(40)-10, 1+d.below(4)))
}

// P4.8 to P4.10: any boxes, as fractions of any size have it.
func TestBoxesOfAnySize(t *testing.T) {
	d := dice(3)
	for range 2000 {
		boxes := []api.Box{d.area(), d.area(), d.area()}
		expectExtent(t, boxes)
		expectHit(t, boxes, d.frac(), d.frac())
		var want []api.Pair
		for i := range boxes {
			for j := i + 1; j < len(boxes); j++ {
				if share(boxes[i].X, boxes[i].W, boxes[j].X, boxes[j].W) && share(boxes[i].Y, boxes[i].H, boxes[j].Y, boxes[j].H) {
					want = append(want, api.Pair{Left: i, Right: j})
				}
			}
		}
		if got, e := grid.Crossing(boxes); e != api.OK || !slices.Equal(got, want) {
			t.Fatalf("Crossing(%v) = %v, %d, want %v", boxes, got, e, want)
		}
	}
}

// share reports whether two stretches have a length in common.
func share(a, aLong, b, bLong api.Frac) bool {
	from, to := ratOf(a), least(add(ratOf(a), ratOf(aLong)), add(ratOf(b), ratOf(bLong)))
	if from.Cmp(ratOf(b)) < 0 {
		from = ratOf(b)
	}
	return from.Cmp(to) < 0
}

func expectExtent(t *testing.T, boxes []api.Box) {
	t.Helper()
	stretch := func(start, size func(b api.Box) api.Frac) (from, long *big.Rat) {
		from, to := ratOf(start(boxes[0])), rat(-1, 1)
		for i, b := range boxes {
			end := add(ratOf(start(b)), ratOf(size(b)))
			if from = least(from, ratOf(start(b))); i == 0 || end.Cmp(to) > 0 {
				to = end
			}
		}
		return from, sub(to, from)
	}
	left, wide := stretch(func(b api.Box) api.Frac { return b.X }, func(b api.Box) api.Frac { return b.W })
	top, high := stretch(func(b api.Box) api.Frac { return b.Y }, func(b api.Box) api.Frac { return b.H })
	want, wantErr := [4]api.Frac{frac(left), frac(top), frac(wide), frac(high)}, api.OK
	if want[2].Num > maxNum || want[2].Den > maxDen || want[3].Num > maxNum || want[3].Den > maxDen {
		want, wantErr = [4]api.Frac{}, api.ErrBoxes
	}
	if x, y, w, h, e := grid.Extent(boxes); [4]api.Frac{x, y, w, h} != want || e != wantErr {
		t.Fatalf("Extent(%v) = %v, %v, %v, %v, %d, want %v, %d", boxes, x, y, w, h, e, want, wantErr)
	}
}

func expectHit(t *testing.T, boxes []api.Box, x, y api.Frac) {
	t.Helper()
	within := func(at, start, size api.Frac) bool {
		return ratOf(start).Cmp(ratOf(at)) <= 0 && ratOf(at).Cmp(add(ratOf(start), ratOf(size))) < 0
	}
	var want []int
	for i, b := range boxes {
		if within(x, b.X, b.W) && within(y, b.Y, b.H) {
			want = append(want, i)
		}
	}
	if got, e := grid.Hit(boxes, x, y); e != api.OK || !slices.Equal(got, want) {
		t.Fatalf("Hit(%v, %v, %v) = %v, %d, want %v", boxes, x, y, got, e, want)
	}
}
