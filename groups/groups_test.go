package groups_test

import (
	"math"
	"testing"

	"ostracon/api"
	"ostracon/groups"
)

// example is the group of the chapter's section Examples: a sign beside two
// signs one above the other.
func example() tree { return beside(glyph(0), above(glyph(1), glyph(2))) }

func lost(least, most int) api.Mark { return api.Mark{Sign: -1, Min: least, Max: most} }

// All functions return Check's errors first.
func TestErrorsOfCheck(t *testing.T) {
	l, good := list(t), text(glyph(0))
	for name, results := range calls(brokenList(), brokenText(), brokenText(), -1, -2) {
		if name != "Same" && results[len(results)-1] != api.ErrCode {
			t.Errorf("%s with a broken list gives %v", name, results)
		}
	}
	for name, results := range calls(l, brokenText(), good, -1, -2) {
		if name != "Same" && results[len(results)-1] != api.ErrDepth {
			t.Errorf("%s with a broken text gives %v", name, results)
		}
	}
}

// P2.2
func TestKids(t *testing.T) {
	l := list(t)
	x := text(glyph(0), example(), ring(honour(over(glyph(0), glyph(1)), gap(1, 2))), glyph(1))
	want := map[int][]int{1: {2, 3}, 3: {4, 5}, 6: {7}, 7: {8, 11}, 8: {9, 10}}
	for node := range x.Nodes {
		kids, e := groups.Kids(l, x, node)
		expectList(t, "Kids", kids, e, want[node]...)
	}
	for _, node := range []int{-1, len(x.Nodes), math.MinInt, math.MaxInt} {
		kids, e := groups.Kids(l, x, node)
		if kids != nil {
			t.Errorf("Kids of no node = %v", kids)
		}
		expectError(t, "Kids of no node", e, api.ErrArg)
	}
	_, e := groups.Kids(l, text(), 0)
	expectError(t, "Kids without nodes", e, api.ErrArg)
	kids, e := groups.Kids(l, text(example()), 0)
	expectList(t, "Kids of the example", kids, e, 1, 2)
}

// P2.2
func TestGroups(t *testing.T) {
	l := list(t)
	found, e := groups.Groups(l, text(glyph(0), example(), ring(honour(over(glyph(0), glyph(1)), gap(1, 2))), glyph(1)))
	expectList(t, "Groups", found, e, 0, 1, 6, 12)
	found, e = groups.Groups(l, text())
	expectList(t, "Groups of no nodes", found, e)
}

// P2.3
func TestLine(t *testing.T) {
	l := list(t)
	damaged := leaf(api.Node{Kind: api.Glyph, Sign: 2, Turn: 3, Mirror: true, State: api.Damaged})
	for _, c := range []struct {
		text []tree
		want []api.Mark
	}{
		{nil, nil},
		{[]tree{damaged, gap(0, 9)}, []api.Mark{{Sign: 2, State: api.Damaged}, lost(0, 9)}},
		{[]tree{example(), over(glyph(3), glyph(0))}, []api.Mark{{Sign: 0}, {Sign: 1}, {Sign: 2}, {Sign: 3}, {Sign: 0}}},
		{[]tree{honour(glyph(0), glyph(1), glyph(2)), glyph(4)}, []api.Mark{{Sign: 1}, {Sign: 2}, {Sign: 0}, {Sign: 4}}},
		{[]tree{honour(glyph(0), glyph(1))}, []api.Mark{{Sign: 1}, {Sign: 0}}},
		{[]tree{ring(honour(glyph(0), glyph(1))), gap(1, 3)}, []api.Mark{{Sign: 1}, {Sign: 0}, lost(1, 3)}},
		{[]tree{honour(above(glyph(0), beside(glyph(1), gap(2, 2))), over(glyph(3), glyph(4)), glyph(2))}, []api.Mark{{Sign: 3}, {Sign: 4}, {Sign: 2}, {Sign: 0}, {Sign: 1}, lost(2, 2)}},
	} {
		line, e := groups.Line(l, text(c.text...))
		expectList(t, "Line", line, e, c.want...)
	}
}

// P2.4
func TestOrder(t *testing.T) {
	l := list(t)
	order, e := groups.Order(l, text(example()))
	expectList(t, "Order", order, e, 0, 1, 2)
	order, e = groups.Order(l, text(honour(glyph(0), glyph(1), glyph(2)), ring(honour(glyph(3), glyph(4)))))
	expectList(t, "Order of honours", order, e, 1, 2, 0, 4, 3)
	order, e = groups.Order(l, text())
	expectList(t, "Order of no nodes", order, e)
	for _, x := range []api.Text{text(gap(1, 3)), text(glyph(0), ring(honour(glyph(0), gap(0, 1))))} {
		order, e = groups.Order(l, x)
		if order != nil {
			t.Errorf("Order with a gap = %v", order)
		}
		expectError(t, "Order with a gap", e, api.ErrGap)
	}
}

// P2.5
func TestRings(t *testing.T) {
	l := list(t)
	spans, e := groups.Rings(l, text(ring(honour(glyph(0), glyph(1))), gap(1, 3)))
	expectList(t, "Rings", spans, e, groups.Span{From: 0, To: 2})
	spans, e = groups.Rings(l, text(example(), ring(gap(1, 9)), honour(glyph(0), glyph(1)), ring(above(glyph(0), glyph(1)), over(glyph(0), glyph(1)), glyph(0)), ring(glyph(0))))
	expectList(t, "Rings", spans, e, groups.Span{From: 3, To: 4}, groups.Span{From: 6, To: 11}, groups.Span{From: 11, To: 12})
	spans, e = groups.Rings(l, text(example(), honour(glyph(0), glyph(1))))
	expectList(t, "Rings without a ring", spans, e)
}

// P2.7
func TestSame(t *testing.T) {
	for _, c := range []struct {
		a, b api.Text
		want bool
	}{
		{text(), text(), true}, {text(), api.Text{Nodes: []api.Node{}}, true}, {text(example()), text(example()), true}, {text(glyph(0)), text(), false}, {text(glyph(0)), text(glyph(1)), false},
		{text(glyph(0), glyph(1)), text(glyph(1), glyph(0)), false}, {text(beside(glyphs(2)...)), text(above(glyphs(2)...)), false}, {text(glyphs(2)...), text(glyphs(3)...), false},
		{brokenText(), brokenText(), true}, {brokenText(), text(glyph(0)), false}, {text(glyphs(201)...), text(glyphs(201)...), true},
	} {
		if groups.Same(c.a, c.b) != c.want || groups.Same(c.b, c.a) != c.want {
			t.Errorf("Same(%v, %v) is not %v", c.a, c.b, c.want)
		}
	}
	base := api.Node{}
	for i, n := range []api.Node{{Kind: 1}, {Depth: 1}, {Sign: 1}, {Turn: 1}, {Mirror: true}, {State: 1}, {Min: 1}, {Max: 1}} {
		if groups.Same(api.Text{Nodes: []api.Node{base}}, api.Text{Nodes: []api.Node{n}}) {
			t.Errorf("Same does not see the field %d", i)
		}
	}
}

// P2.7
func TestAlike(t *testing.T) {
	l := list(t)
	turned := leaf(api.Node{Kind: api.Glyph, Sign: 0, Turn: 1, Mirror: true})
	damaged := leaf(api.Node{Kind: api.Glyph, Sign: 0, State: api.Damaged})
	for _, c := range []struct {
		a, b []tree
		want bool
	}{
		{nil, nil, true}, {nil, []tree{glyph(0)}, false},
		{[]tree{example()}, []tree{glyph(0), glyph(1), glyph(2)}, true},
		{[]tree{honour(glyph(0), glyph(1))}, []tree{over(glyph(1), glyph(0))}, true},
		{[]tree{honour(glyph(0), glyph(1))}, []tree{beside(glyph(0), glyph(1))}, false},
		{[]tree{glyph(0)}, []tree{turned}, true}, {[]tree{glyph(0)}, []tree{damaged}, false}, {[]tree{glyph(0)}, []tree{glyph(1)}, false},
		{[]tree{gap(1, 1)}, []tree{gap(0, 1)}, false}, {[]tree{gap(1, 1)}, []tree{gap(1, 2)}, false},
		{[]tree{ring(glyph(0))}, []tree{glyph(0)}, false}, {[]tree{ring(glyph(0), glyph(1))}, []tree{ring(glyph(0)), glyph(1)}, false},
		{[]tree{ring(glyph(0), glyph(1))}, []tree{ring(glyph(0)), ring(glyph(1))}, false}, {[]tree{ring(honour(glyph(0), glyph(1)))}, []tree{ring(glyph(1), glyph(0))}, true},
		{[]tree{ring(glyph(0)), glyph(0)}, []tree{glyph(0), ring(glyph(0))}, false},
	} {
		alike, e := groups.Alike(l, text(c.a...), text(c.b...))
		back, f := groups.Alike(l, text(c.b...), text(c.a...))
		if alike != c.want || back != c.want || e != api.OK || f != api.OK {
			t.Errorf("Alike(%v, %v) = %v, %d, and the other way %v, %d", c.a, c.b, alike, e, back, f)
		}
	}
	for _, c := range []struct {
		a, b api.Text
		want api.Errno
	}{
		{text(glyph(0)), brokenText(), api.ErrDepth}, {brokenText(), text(glyph(0)), api.ErrDepth}, {brokenText(), text(glyph(9)), api.ErrDepth}, {text(glyph(9)), brokenText(), api.ErrSign}, {brokenText(), brokenText(), api.ErrDepth},
	} {
		alike, e := groups.Alike(l, c.a, c.b)
		if alike {
			t.Errorf("texts that are not valid are alike")
		}
		expectError(t, "Alike of texts that are not valid", e, c.want)
	}
}

// P2.11
func TestTally(t *testing.T) {
	l := list(t)
	counts, e := groups.Tally(l, text(example(), glyph(2), ring(honour(over(glyph(4), glyph(2)), gap(1, 9)))))
	expectList(t, "Tally", counts, e, 1, 1, 3, 0, 1)
	counts, e = groups.Tally(l, text())
	expectList(t, "Tally of no nodes", counts, e, 0, 0, 0, 0, 0)
	counts, e = groups.Tally(l, text(gap(1, 9)))
	expectList(t, "Tally of a gap", counts, e, 0, 0, 0, 0, 0)
	counts, e = groups.Tally(l, text(glyphs(200)...))
	expectList(t, "Tally of the longest text", counts, e, 200, 0, 0, 0, 0)
	counts, e = groups.Tally(api.List{Periods: 1}, text())
	expectList(t, "Tally without signs", counts, e)
}
