package grid_test

import (
	"reflect"
	"slices"
	"testing"

	"ostracon/api"
	"ostracon/code"
	"ostracon/grid"
	"ostracon/groups"
)

// crossing are the pairs of boxes that a text has to have: a ring and everything
// in it, and the two kids of an over.
func crossing(x api.Text) []api.Pair {
	var pairs []api.Pair
	box, ring, outer := 0, -1, -1
	for _, n := range x.Nodes {
		if n.Depth == 0 {
			ring = -1
		}
		if n.Kind == api.Over {
			outer = box
		}
		if n.Kind == api.Ring {
			ring = box
		}
		if n.Kind != api.Ring && n.Kind != api.Glyph && n.Kind != api.Gap {
			continue
		}
		if ring >= 0 && n.Kind != api.Ring {
			pairs = append(pairs, api.Pair{Left: ring, Right: box})
		}
		if outer >= 0 && box == outer+1 {
			pairs = append(pairs, api.Pair{Left: outer, Right: box})
		}
		box++
	}
	slices.SortFunc(pairs, func(a, b api.Pair) int {
		return slices.Compare([]int{a.Left, a.Right}, []int{b.Left, b.Right})
	})
	return pairs
}

// P4.12: how many boxes there are, and which of them cross.
func TestBoxesOfText(t *testing.T) {
	rolls(t, 9, func(d *dice, trees []tree, x api.Text) {
		p := d.page()
		boxes, wall := mustLay(t, x, p), mustPlain(t, x)
		kinds := 0
		for _, n := range wall.Nodes {
			if n.Kind == api.Glyph || n.Kind == api.Gap || n.Kind == api.Ring {
				kinds++
			}
		}
		if len(boxes) != kinds {
			t.Fatalf("Lay(%v, %v) has %d boxes, want %d", x, p, len(boxes), kinds)
		}
		got, e := grid.Crossing(boxes)
		if want := crossing(wall); e != api.OK || !slices.Equal(got, want) {
			t.Fatalf("Crossing of %v on %v = %v, %d, want %v", x, p, got, e, want)
		}
		for _, pair := range got {
			if left, right := boxes[pair.Left], boxes[pair.Right]; !contains(left, right) {
				t.Fatalf("on %v %v and %v of %v cross", p, left, right, x)
			}
		}
	})
}

func contains(outer, inner api.Box) bool {
	x, y, w, h, e := grid.Extent([]api.Box{outer, inner})
	return e == api.OK && [4]api.Frac{x, y, w, h} == place(outer)
}

// groupOf are the numbers of the groups to which boxes belong.
func groupOf(x api.Text) []int {
	var numbers []int
	group := -1
	for _, n := range x.Nodes {
		if n.Depth == 0 {
			group++
		}
		if n.Kind == api.Glyph || n.Kind == api.Gap || n.Kind == api.Ring {
			numbers = append(numbers, group)
		}
	}
	return numbers
}

// P4.12, P4.15: each box lies within the 48 of its line, and a line of several
// groups within Length; the groups of the lines are all groups.
func TestBoxesOfLines(t *testing.T) {
	l := list(t)
	rolls(t, 10, func(d *dice, trees []tree, x api.Text) {
		p := d.page()
		lines, e := grid.Lines(l, x, p)
		if e != api.OK {
			t.Fatal(e)
		}
		var all, lineOf []int
		for k, line := range lines {
			all = append(all, line...)
			lineOf = append(lineOf, slices.Repeat([]int{k}, len(line))...)
		}
		if !slices.IsSorted(all) || len(all) != len(trees) || len(all) > 0 && (all[0] != 0 || all[len(all)-1] != len(all)-1) {
			t.Fatalf("Lines(%v, %v) = %v", x, p, lines)
		}
		numbers := groupOf(mustPlain(t, x))
		for i, b := range mustLay(t, x, p) {
			k := lineOf[numbers[i]]
			from, long, at, size := b.Y, b.H, b.X, b.W
			if p.Way == 2 || p.Way == 4 {
				b.X = frac(sub(rat(0, 1), add(ratOf(b.X), ratOf(b.W))))
				at = b.X
			}
			if p.Way > 2 {
				from, long, at, size = b.X, b.W, b.Y, b.H
			}
			if ratOf(from).Cmp(rat(72*k, 1)) < 0 || add(ratOf(from), ratOf(long)).Cmp(rat(72*k+48, 1)) > 0 {
				t.Fatalf("the box %d of %v on %v is %v, outside of the line %d", i, x, p, b, k)
			}
			if len(lines[k]) > 1 && add(ratOf(at), ratOf(size)).Cmp(rat(p.Length, 1)) > 0 {
				t.Fatalf("the line %d of %v on %v is too long", k, x, p)
			}
		}
	})
}

// P4.14: boxes that are carried to another page and back are those of the same text.
func TestRelayAndBack(t *testing.T) {
	l := list(t)
	rolls(t, 11, func(d *dice, trees []tree, x api.Text) {
		from, to := d.page(), d.page()
		boxes := mustLay(t, x, from)
		there, e := grid.Relay(l, d.shuffled(boxes), from, to)
		if e != api.OK || !slices.Equal(there, mustLay(t, x, to)) {
			t.Fatalf("Relay of %v from %v to %v = %v, %d", x, from, to, there, e)
		}
		back, e := grid.Relay(l, there, to, from)
		if e != api.OK || !slices.Equal(back, boxes) {
			t.Fatalf("Relay of %v back from %v to %v = %v, %d, want %v", x, to, from, back, e, boxes)
		}
	})
}

// P4.14: the ways 2 and 4 are the ways 1 and 3 in a mirror.
func TestMirroredWays(t *testing.T) {
	rolls(t, 12, func(d *dice, trees []tree, x api.Text) {
		p := d.page()
		p.Way = pick(d, 1, 3)
		boxes := mustLay(t, x, p)
		for i, b := range boxes {
			boxes[i].X = frac(sub(rat(0, 1), add(ratOf(b.X), ratOf(b.W))))
		}
		p.Way++
		if got := mustLay(t, x, p); !slices.Equal(got, boxes) {
			t.Fatalf("Lay(%v, %v) = %v, want %v", x, p, got, boxes)
		}
	})
}

// P0.2: what is read back from the wall has the signs of the wall, in their
// order and grouping, and what is written in a code and read back is the same.
func TestWallAndCode(t *testing.T) {
	l := list(t)
	rolls(t, 13, func(d *dice, trees []tree, x api.Text) {
		p := d.page()
		wall := mustPlain(t, x)
		back, e := grid.Read(l, d.shuffled(mustLay(t, x, p)), p)
		if e != api.OK {
			t.Fatalf("Read of Lay(%v, %v): %d", x, p, e)
		}
		if alike, e := groups.Alike(l, back, wall); !alike || e != api.OK {
			t.Fatalf("Read of Lay(%v, %v) = %v", x, p, back)
		}
		got, _ := groups.Groups(l, back)
		if want, _ := groups.Groups(l, x); len(got) != len(want) {
			t.Fatalf("Read of Lay(%v, %v) has the groups %v", x, p, got)
		}
		s, e := code.Write(code.Line, l, back)
		if e != api.OK {
			t.Fatalf("Write(%v): %d", back, e)
		}
		if again, _, e := code.Read(code.Line, l, s); e != api.OK || !groups.Same(again, wall) {
			t.Fatalf("Read(%q) = %v, %d, want %v", s, again, e, wall)
		}
	})
}

// P4.5: all fractions that are returned are valid, even for the largest groups.
func TestValidFractions(t *testing.T) {
	for _, trees := range longest() {
		for _, way := range ways() {
			for _, length := range []int{48, 4800} {
				boxes := mustLay(t, text(trees...), api.Page{Way: way, Length: length})
				if _, _, _, _, e := grid.Extent(boxes); e != api.OK {
					t.Errorf("Extent of the boxes of a long text gives the error %d", e)
				}
			}
		}
	}
}

// call is what a function returns, with the error at the end.
type call struct {
	name    string
	results []any
	e       api.Errno
}

// arguments are those of any function of the package.
type arguments struct {
	l        api.List
	x        api.Text
	boxes    []api.Box
	p, other api.Page
	number   int
	a, b     api.Frac
}

// calls are the results of all functions of the package.
func calls(a arguments) []call {
	wide, high, naturalError := grid.Natural(a.l, a.x, a.p, a.number)
	scale, scaleError := grid.Scale(a.l, a.x, a.p, a.number)
	lines, linesError := grid.Lines(a.l, a.x, a.p)
	laid, layError := grid.Lay(a.l, a.x, a.p)
	read, readError := grid.Read(a.l, a.boxes, a.p)
	relaid, relayError := grid.Relay(a.l, a.boxes, a.p, a.other)
	x, y, w, h, extentError := grid.Extent(a.boxes)
	hit, hitError := grid.Hit(a.boxes, a.a, a.b)
	pairs, crossingError := grid.Crossing(a.boxes)
	less, lessError := grid.Less(a.a, a.b)
	return []call{
		{"Check", nil, grid.Check(a.p)},
		{"Natural", []any{wide, high}, naturalError},
		{"Scale", []any{scale}, scaleError},
		{"Lines", []any{append([][]int{}, lines...)}, linesError},
		{"Lay", []any{append([]api.Box{}, laid...)}, layError},
		{"Read", []any{append([]api.Node{}, read.Nodes...)}, readError},
		{"Relay", []any{append([]api.Box{}, relaid...)}, relayError},
		{"Extent", []any{x, y, w, h}, extentError},
		{"Hit", []any{append([]int{}, hit...)}, hitError},
		{"Crossing", []any{append([]api.Pair{}, pairs...)}, crossingError},
		{"Less", []any{less}, lessError},
	}
}

func isZero(result any) bool {
	v := reflect.ValueOf(result)
	return v.IsZero() || v.Kind() == reflect.Slice && v.Len() == 0
}

// someText returns a text that need not be valid in any way.
func (d *dice) someText() api.Text {
	x := text(d.trees()...)
	for range d.below(3) {
		if len(x.Nodes) > 0 {
			n := &x.Nodes[d.below(len(x.Nodes))]
			*pick(d, &n.Kind, &n.Depth, &n.Sign, &n.Turn, &n.State, &n.Min, &n.Max) = d.number()
		}
	}
	return x
}

func (d *dice) somePage() api.Page {
	if d.below(4) == 0 {
		return api.Page{Way: d.number(), Length: d.number()}
	}
	return d.page()
}

func (d *dice) someFrac() api.Frac {
	if d.below(4) == 0 {
		return api.Frac{Num: d.number(), Den: d.number()}
	}
	return d.frac()
}

func (d *dice) someArguments(t *testing.T, lists []api.List) arguments {
	p := d.page()
	a := arguments{
		l: lists[d.below(len(lists))], x: d.someText(), boxes: d.someBoxes(t, p), p: p, other: d.somePage(),
		number: pick(d, d.below(20), d.number()), a: d.someFrac(), b: d.someFrac(),
	}
	if d.below(4) == 0 {
		a.p = d.somePage()
	}
	if len(a.boxes) > 0 && d.below(4) == 0 {
		b := &a.boxes[d.below(len(a.boxes))]
		*pick(d, &b.X, &b.Y, &b.W, &b.H) = d.someFrac()
	}
	return a
}

// P0.1, R2, R4: no argument makes a function panic, the results depend on the
// arguments alone, no argument is changed, and with an error every other result
// is its zero value.
func TestAnyArguments(t *testing.T) {
	d := dice(14)
	lists := []api.List{list(t), list(t), list(t), {Periods: 1}, {}, brokenList()}
	for range 3000 {
		a := d.someArguments(t, lists)
		x, boxes := api.Text{Nodes: slices.Clone(a.x.Nodes)}, slices.Clone(a.boxes)
		first := calls(a)
		if !groups.Same(a.x, x) || !slices.Equal(a.boxes, boxes) {
			t.Fatalf("calls with %v change an argument", a)
		}
		if second := calls(a); !reflect.DeepEqual(first, second) {
			t.Fatalf("calls with %v give %v, then %v", a, first, second)
		}
		for _, c := range first {
			if c.e != api.OK && slices.ContainsFunc(c.results, func(r any) bool { return !isZero(r) }) {
				t.Fatalf("%s with %v gives %v, %d", c.name, a, c.results, c.e)
			}
		}
	}
	if !reflect.DeepEqual(lists[0], list(t)) {
		t.Errorf("calls change a list")
	}
}

// R3: a nil list and an empty one are the same.
func TestNilAndEmpty(t *testing.T) {
	none := calls(arguments{l: list(t), p: page(1), other: page(2), a: n(0), b: n(1)})
	empty := calls(arguments{l: list(t), x: api.Text{Nodes: []api.Node{}}, boxes: []api.Box{}, p: page(1), other: page(2), a: n(0), b: n(1)})
	if !reflect.DeepEqual(none, empty) {
		t.Errorf("calls with nil give %v, with an empty list %v", none, empty)
	}
}

// R4: results share no memory with arguments or with each other, and nothing
// behind an argument is changed.
func TestNewMemory(t *testing.T) {
	l := list(t)
	rolls(t, 15, func(d *dice, trees []tree, x api.Text) {
		p := d.page()
		nodes := append(slices.Clone(x.Nodes), make([]api.Node, 100)...)
		boxes := append(mustLay(t, x, p), make([]api.Box, 100)...)
		count := len(boxes) - 100
		nodesBefore, boxesBefore := slices.Clone(nodes), slices.Clone(boxes)
		laid := mustLay(t, api.Text{Nodes: nodes[:len(x.Nodes)]}, p)
		read, _ := grid.Read(l, boxes[:count], p)
		relaid, _ := grid.Relay(l, boxes[:count], p, p)
		lines, _ := grid.Lines(l, x, p)
		fill(laid, api.Box{Kind: -1})
		fill(read.Nodes, api.Node{Kind: -1})
		fill(relaid, api.Box{Kind: -1})
		if !slices.Equal(nodes, nodesBefore) || !slices.Equal(boxes, boxesBefore) {
			t.Fatalf("results for %v on %v share memory with arguments", x, p)
		}
		for k := range lines {
			fill(lines[k], -1-k)
		}
		for k, line := range lines {
			if slices.ContainsFunc(line, func(group int) bool { return group != -1-k }) {
				t.Fatalf("Lines(%v, %v) share memory", x, p)
			}
		}
	})
}

// fill overwrites a list, and the memory behind it that belongs to it.
func fill[E any](list []E, with E) {
	list = list[:cap(list)]
	for i := range list {
		list[i] = with
	}
}
