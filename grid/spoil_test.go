package grid_test

import (
	"math"
	"slices"
	"strconv"
	"testing"

	"ostracon/api"
	"ostracon/grid"
	"ostracon/groups"
)

// spoilings change a box so that no text has it any more, wherever that box
// stands, or do not change it.
func spoilings() map[string]func(b *api.Box) {
	return map[string]func(b *api.Box){
		"the kind 0":         func(b *api.Box) { b.Kind = 0 },
		"the kind -1":        func(b *api.Box) { b.Kind = -1 },
		"a Beside":           func(b *api.Box) { b.Kind = api.Beside },
		"an Above":           func(b *api.Box) { b.Kind = api.Above },
		"an Over":            func(b *api.Box) { b.Kind = api.Over },
		"an Honour":          func(b *api.Box) { b.Kind = api.Honour },
		"the kind 8":         func(b *api.Box) { b.Kind = 8 },
		"the sign -1":        func(b *api.Box) { b.Sign = -1 },
		"a sign of no list":  func(b *api.Box) { b.Sign = countSign },
		"the greatest sign":  func(b *api.Box) { b.Sign = math.MaxInt },
		"the turn -1":        func(b *api.Box) { b.Turn = -1 },
		"the turn 4":         func(b *api.Box) { b.Turn = 4 },
		"the state -1":       func(b *api.Box) { b.State = -1 },
		"the state 4":        func(b *api.Box) { b.State = 4 },
		"the Min -1":         func(b *api.Box) { b.Min = -1 },
		"the Max -1":         func(b *api.Box) { b.Max = -1 },
		"the Max 10":         func(b *api.Box) { b.Max = 10 },
		"a Min above Max":    func(b *api.Box) { b.Min = b.Max + 1 },
		"the greatest Max":   func(b *api.Box) { b.Max = math.MaxInt },
		"moved by 1":         func(b *api.Box) { b.X.Num += b.X.Den },
		"moved by -1":        func(b *api.Box) { b.X.Num -= b.X.Den },
		"moved down":         func(b *api.Box) { b.Y.Num += b.Y.Den },
		"moved up":           func(b *api.Box) { b.Y.Num -= b.Y.Den },
		"moved far":          func(b *api.Box) { b.X = n(1 << 30) },
		"moved far up":       func(b *api.Box) { b.Y = n(-1 << 30) },
		"moved by a little":  func(b *api.Box) { b.X = frac(add(ratOf(b.X), rat(1, 100))) },
		"wider":              func(b *api.Box) { b.W.Num += b.W.Den },
		"twice as wide":      func(b *api.Box) { b.W = frac(add(ratOf(b.W), ratOf(b.W))) },
		"half as wide":       func(b *api.Box) { b.W = frac(half(ratOf(b.W))) },
		"higher":             func(b *api.Box) { b.H.Num += b.H.Den },
		"higher by a little": func(b *api.Box) { b.H = frac(add(ratOf(b.H), rat(1, 100))) },
		"half as high":       func(b *api.Box) { b.H = frac(half(ratOf(b.H))) },
		"no width":           func(b *api.Box) { b.W = n(0) },
		"a width below 0":    func(b *api.Box) { b.W.Num *= -1 },
		"no height":          func(b *api.Box) { b.H = n(0) },
		"X not reduced":      func(b *api.Box) { b.X.Num, b.X.Den = b.X.Num*2, b.X.Den*2 },
		"Y not reduced":      func(b *api.Box) { b.Y.Num, b.Y.Den = b.Y.Num*2, b.Y.Den*2 },
		"W not reduced":      func(b *api.Box) { b.W.Num, b.W.Den = b.W.Num*2, b.W.Den*2 },
		"H with a sign":      func(b *api.Box) { b.H.Num, b.H.Den = -b.H.Num, -b.H.Den },
		"no H":               func(b *api.Box) { b.H = api.Frac{} },
		"the least Y":        func(b *api.Box) { b.Y = f(math.MinInt, math.MinInt) },
		"nothing":            func(b *api.Box) { *b = api.Box{} },
	}
}

// P4.6, P4.7: no text has boxes of which one is changed.
func TestReadSpoiled(t *testing.T) {
	for _, s := range []string{"B2", "B2-A1*C3", "G7*(B2:C3)", "<C3-{1-2}>-B2&A1", "B2:G7*A1&D4-<A1:B2>-{3-9}"} {
		for _, way := range ways() {
			p := api.Page{Way: way, Length: 100}
			boxes := mustLay(t, line(t, s), p)
			for what, spoil := range spoilings() {
				for i := range boxes {
					spoiled := slices.Clone(boxes)
					if spoil(&spoiled[i]); spoiled[i] != boxes[i] {
						expectNoText(t, s+" with "+what+" in box "+strconv.Itoa(i), spoiled, p)
					}
				}
			}
		}
	}
}

// P4.6: fields that a leaf or a ring does not have, and what only some signs may be.
func TestReadWrongFields(t *testing.T) {
	p := page(1)
	for _, c := range []struct {
		text  string
		box   int
		what  string
		spoil func(b *api.Box)
	}{
		{"A1", 0, "a Min", func(b *api.Box) { b.Min = 1 }},
		{"A1", 0, "a Max", func(b *api.Box) { b.Max = 1 }},
		{"A1", 0, "another sign", func(b *api.Box) { b.Sign = 1 }},
		{"B2", 0, "another turn", func(b *api.Box) { b.Turn = 1 }},
		{"D4", 0, "an even sign in a mirror", func(b *api.Box) { b.Mirror = true }},
		{"A1&D4", 1, "an even sign in a mirror", func(b *api.Box) { b.Mirror = true }},
		{"B2", 0, "a gap for a sign", func(b *api.Box) { b.Kind, b.Sign, b.Min, b.Max = api.Gap, 0, 2, 2 }},
		{"{1-2}", 0, "a gap with a sign", func(b *api.Box) { b.Sign = 1 }},
		{"{1-2}", 0, "a gap with a turn", func(b *api.Box) { b.Turn = 2 }},
		{"{1-2}", 0, "a gap in a mirror", func(b *api.Box) { b.Mirror = true }},
		{"{1-2}", 0, "a gap with a state", func(b *api.Box) { b.State = 1 }},
		{"{1-2}", 0, "a gap of 1 to 3", func(b *api.Box) { b.Max = 3 }},
		{"{1-2}", 0, "a gap of nothing", func(b *api.Box) { b.Min, b.Max = 0, 0 }},
		{"<A1>", 0, "a ring with a sign", func(b *api.Box) { b.Sign = 1 }},
		{"<A1>", 0, "a ring with a turn", func(b *api.Box) { b.Turn = 1 }},
		{"<A1>", 0, "a ring in a mirror", func(b *api.Box) { b.Mirror = true }},
		{"<A1>", 0, "a ring with a state", func(b *api.Box) { b.State = 1 }},
		{"<A1>", 0, "a ring with a Min", func(b *api.Box) { b.Min = 1 }},
		{"<A1>", 0, "a ring with a Max", func(b *api.Box) { b.Max = 1 }},
		{"<A1>", 1, "a ring for a sign", func(b *api.Box) { b.Kind = api.Ring }},
		{"A1", 0, "a ring for a sign", func(b *api.Box) { b.Kind = api.Ring }},
		{"<A1>", 0, "a sign for a ring", func(b *api.Box) { b.Kind = api.Glyph }},
		{"A1&B2", 0, "the outer sign like the inner one", func(b *api.Box) { b.Sign = 1 }},
	} {
		boxes := mustLay(t, line(t, c.text), p)
		c.spoil(&boxes[c.box])
		expectNoText(t, c.text+": "+c.what, boxes, p)
	}
}

// P4.6: groups that stand where they do not belong.
func TestReadWrongPlaces(t *testing.T) {
	at := func(sign int, x, y, w, h api.Frac) api.Box {
		return api.Box{Kind: api.Glyph, Sign: sign, X: x, Y: y, W: w, H: h}
	}
	full := func(x, y api.Frac) api.Box { return at(0, x, y, n(48), n(48)) }
	good := full(n(0), n(0))
	for what, boxes := range map[string][]api.Box{
		"twice the same":               {good, good},
		"a beginning that is not 0":    {full(n(1), n(0))},
		"a beginning below 0":          {full(n(-1), n(0))},
		"too great a space":            {good, full(n(73), n(0))},
		"a space of two groups":        {good, full(n(144), n(0))},
		"too small a space":            {good, full(n(71), n(0))},
		"no whole number":              {good, full(f(145, 2), n(0))},
		"an empty line":                {good, full(n(0), n(144))},
		"an empty first line":          {full(n(0), n(72))},
		"a line above the first one":   {full(n(0), n(-72)), good},
		"lines too near":               {good, full(n(0), n(71))},
		"a new line too early":         {good, full(n(0), n(72))},
		"not in the middle":            {at(1, n(0), n(0), n(24), n(12))},
		"too small a scale":            {at(0, n(0), n(12), n(24), n(24))},
		"too great a scale":            {at(3, n(0), n(0), n(48), n(48))},
		"overlapping":                  {good, full(n(24), n(0))},
		"touching":                     {good, full(n(48), n(0))},
		"an inner sign at the corner":  {good, at(0, n(0), n(0), n(24), n(24))},
		"too small an inner sign":      {good, at(0, n(18), n(18), n(12), n(12))},
		"two inner signs":              {good, at(0, n(12), n(12), n(24), n(24)), at(1, n(12), n(12), n(24), n(24))},
		"an inner sign of an inner":    {good, at(0, n(12), n(12), n(24), n(24)), at(1, n(18), n(18), n(12), n(12))},
		"a space of 16 beside":         {at(0, n(0), f(72, 7), f(144, 7), f(144, 7)), at(0, f(192, 7), f(72, 7), f(144, 7), f(144, 7))},
		"two sizes of the same sign":   {at(0, n(0), n(12), n(24), n(24)), at(0, n(34), n(18), n(12), n(12))},
		"a ring without signs":         {{Kind: api.Ring, X: n(0), Y: n(0), W: n(24), H: n(24)}},
		"a ring beside its sign":       {{Kind: api.Ring, X: n(0), Y: n(0), W: n(72), H: n(72)}, full(n(96), n(0))},
		"a ring that is not around":    {{Kind: api.Ring, X: n(0), Y: n(0), W: n(24), H: n(36)}, at(1, n(12), n(18), n(24), n(12))},
		"two rings around one another": {{Kind: api.Ring, X: n(0), Y: n(0), W: n(72), H: n(60)}, {Kind: api.Ring, X: n(12), Y: n(6), W: n(48), H: n(36)}, at(1, n(24), n(18), n(24), n(12))},
	} {
		expectNoText(t, what, boxes, page(1))
	}
	expectRead(t, "one group", []api.Box{good}, page(1), line(t, "A1"))
	expectRead(t, "two groups", []api.Box{full(n(72), n(0)), good}, page(1), line(t, "A1-A1"))
	expectRead(t, "two lines", []api.Box{full(n(0), n(72)), good}, api.Page{Way: 1, Length: 48}, line(t, "A1-A1"))
}

// P4.6: boxes are read from the page on which they were laid.
func TestReadFromOtherPages(t *testing.T) {
	for _, c := range []struct {
		text     string
		from, to api.Page
	}{
		{"A1-A1", page(1), api.Page{Way: 1, Length: 119}},
		{"A1-A1", api.Page{Way: 1, Length: 119}, page(1)},
		{"B2", page(1), page(3)}, {"B2", page(1), page(2)}, {"B2", page(2), page(1)}, {"B2", page(2), page(4)}, {"B2", page(4), page(3)},
		{"<A1-B2>", page(1), page(3)}, {"<E5:E5>-B2", page(3), page(1)},
	} {
		expectNoText(t, c.text, mustLay(t, line(t, c.text), c.from), c.to)
	}
	long := api.Page{Way: 1, Length: 120}
	expectRead(t, "a line that is just long enough", mustLay(t, line(t, "A1-A1"), page(1)), long, line(t, "A1-A1"))
	expectRead(t, "what stands alike in rows and in columns", mustLay(t, line(t, "A1*(A1:A1)"), page(1)), page(1), line(t, "A1*(A1:A1)"))
	expectRead(t, "a square in columns", mustLay(t, line(t, "A1"), page(2)), page(4), line(t, "A1"))
}

// P4.6 and P4.7: the errors, in their order.
func TestReadErrors(t *testing.T) {
	l, bad := list(t), api.Page{Way: 1, Length: 0}
	good := mustLay(t, line(t, "A1-B2"), page(1))
	many := make([]api.Box, api.MaxNodes+1)
	for _, c := range []struct {
		what        string
		l           api.List
		boxes       []api.Box
		from, to    api.Page
		read, relay api.Errno
	}{
		{"boxes", l, good, page(1), page(2), api.OK, api.OK},
		{"boxes, to a page that is not valid", l, good, page(1), bad, api.OK, api.ErrPage},
		{"no boxes, to a page that is not valid", l, nil, page(1), bad, api.OK, api.ErrPage},
		{"boxes that are not placed", l, many[:1], page(1), bad, api.ErrBoxes, api.ErrBoxes},
		{"too many boxes", l, many, page(1), bad, api.ErrMany, api.ErrMany},
		{"a page that is not valid", l, many, bad, page(1), api.ErrPage, api.ErrPage},
		{"no boxes, a page that is not valid", l, nil, bad, page(1), api.ErrPage, api.ErrPage},
		{"a list that is not valid", brokenList(), many, bad, bad, api.ErrSize, api.ErrSize},
		{"a list that is not valid, and nothing", brokenList(), nil, page(1), page(1), api.ErrSize, api.ErrSize},
		{"a list without the signs", api.List{Periods: 1, Signs: l.Signs[:1]}, good, page(1), page(1), api.ErrBoxes, api.ErrBoxes},
		{"an empty list", api.List{Periods: 1}, good, page(1), page(1), api.ErrBoxes, api.ErrBoxes},
	} {
		x, e := grid.Read(c.l, c.boxes, c.from)
		expectError(t, "Read of "+c.what, e, c.read)
		boxes, f := grid.Relay(c.l, c.boxes, c.from, c.to)
		expectError(t, "Relay of "+c.what, f, c.relay)
		if e != api.OK && len(x.Nodes) > 0 || f != api.OK && len(boxes) > 0 {
			t.Errorf("Read and Relay of %s = %v, %v", c.what, x, boxes)
		}
	}
	if _, e := grid.Read(l, slices.Repeat(good[:1], api.MaxNodes), page(1)); e != api.ErrBoxes {
		t.Errorf("Read of 200 times the same box gives the error %d", e)
	}
}

// spoil changes something of a box.
func (d *dice) spoil(b *api.Box) {
	place := pick(d, &b.X, &b.Y, &b.W, &b.H)
	switch d.below(6) {
	case 0:
		*pick(d, &b.Kind, &b.Sign, &b.Turn, &b.State, &b.Min, &b.Max) = d.number()
	case 1:
		*pick(d, &place.Num, &place.Den) = d.number()
	case 2:
		*pick(d, &place.Num, &place.Den) += pick(d, -1, 1)
	case 3:
		*place = frac(mul(ratOf(*place), pick(d, rat(1, 2), rat(2, 1), rat(-1, 1))))
	case 4:
		*place = d.frac()
	default:
		b.Mirror = !b.Mirror
		b.State = d.below(4)
	}
}

func (d *dice) number() int {
	return pick(d, 0, 1, 2, 3, 4, 5, 6, 7, 8, 9, 10, 48, 200, -1, math.MinInt, math.MaxInt, math.MinInt32, math.MaxInt32, api.MaxDen)
}

// someBoxes are the boxes of a text of which some are spoiled, gone, or there twice.
func (d *dice) someBoxes(t *testing.T, p api.Page) []api.Box {
	boxes := d.shuffled(mustLay(t, text(d.trees()...), p))
	for range d.below(3) {
		if len(boxes) == 0 {
			break
		}
		b := boxes[d.below(len(boxes))]
		switch d.below(6) {
		case 0:
			boxes = boxes[1:]
		case 1:
			boxes = append(boxes, b)
		default:
			i := d.below(len(boxes))
			if b := &boxes[i]; b.X.Den > 0 && b.Y.Den > 0 && b.W.Den > 0 && b.H.Den > 0 {
				d.spoil(b)
			}
		}
	}
	return boxes
}

// P4.6: whatever is read is a text without an honour that has just these boxes.
func TestReadOfAnyBoxes(t *testing.T) {
	l, d := list(t), dice(8)
	read, not := 0, 0
	for range 4000 {
		p := d.page()
		boxes := d.someBoxes(t, p)
		x, e := grid.Read(l, boxes, p)
		if e != api.OK {
			if e != api.ErrBoxes && (e != api.ErrMany || len(boxes) <= api.MaxNodes) {
				t.Fatalf("Read(%v, %v): %d", boxes, p, e)
			}
			not++
			continue
		}
		read++
		if !groups.Same(x, mustPlain(t, x)) || slices.ContainsFunc(x.Nodes, func(n api.Node) bool { return n.Kind == api.Honour }) {
			t.Fatalf("Read(%v, %v) = %v", boxes, p, x)
		}
		if laid := mustLay(t, x, p); !slices.Equal(sorted(laid), sorted(boxes)) {
			t.Fatalf("Read(%v, %v) = %v, which stands at %v", boxes, p, x, laid)
		}
	}
	if read == 0 || not == 0 {
		t.Errorf("%d were read, and %d not", read, not)
	}
}

// sorted are the same boxes in an order that depends on nothing but them.
func sorted(boxes []api.Box) []api.Box {
	numbers := func(b api.Box) []int {
		mirror := 0
		if b.Mirror {
			mirror = 1
		}
		return []int{b.Kind, b.Sign, b.Turn, mirror, b.State, b.Min, b.Max, b.X.Num, b.X.Den, b.Y.Num, b.Y.Den, b.W.Num, b.W.Den, b.H.Num, b.H.Den}
	}
	boxes = slices.Clone(boxes)
	slices.SortFunc(boxes, func(a, b api.Box) int { return slices.Compare(numbers(a), numbers(b)) })
	return boxes
}
