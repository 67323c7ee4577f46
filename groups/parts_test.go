package groups_test

import (
	"math"
	"slices"
	"testing"

	"ostracon/api"
	"ostracon/groups"
)

// rich is a glyph all of whose fields are in use.
func rich() tree {
	return leaf(api.Node{Kind: api.Glyph, Sign: 2, Turn: 3, Mirror: true, State: api.Usurped})
}

// P2.6
func TestPlain(t *testing.T) {
	l := list(t)
	stack := above(rich(), beside(glyph(0), gap(0, 4)))
	for _, c := range []struct{ text, want []tree }{
		{nil, nil},
		{[]tree{example(), rich(), ring(stack)}, []tree{example(), rich(), ring(stack)}},
		{[]tree{honour(glyph(0), glyph(1), glyph(2))}, []tree{beside(glyph(0), glyph(1), glyph(2))}},
		{[]tree{glyph(1), honour(stack, glyph(1)), glyph(2)}, []tree{glyph(1), beside(stack, glyph(1)), glyph(2)}},
		{[]tree{ring(honour(glyph(0), stack)), honour(glyph(1), glyph(2))}, []tree{ring(glyph(0), stack), beside(glyph(1), glyph(2))}},
	} {
		got, e := groups.Plain(l, text(c.text...))
		expectText(t, "Plain", got, e, text(c.want...))
	}
	got, e := groups.Plain(l, text(honour(glyph(0), glyph(1), glyph(2))))
	order, f := groups.Order(l, got)
	expectError(t, "Plain", e, api.OK)
	expectList(t, "Order of Plain", order, f, 0, 1, 2)
}

// P2.8
func TestSub(t *testing.T) {
	l := list(t)
	stack := above(rich(), beside(glyph(0), gap(0, 4)))
	x := text(glyph(1), ring(honour(stack, glyph(0))), rich())
	want := []api.Text{
		text(glyph(1)), text(ring(honour(stack, glyph(0)))), text(honour(stack, glyph(0))), text(stack), text(rich()), text(beside(glyph(0), gap(0, 4))),
		text(glyph(0)), text(gap(0, 4)), text(glyph(0)), text(rich()),
	}
	for node := range x.Nodes {
		got, e := groups.Sub(l, x, node)
		expectText(t, "Sub", got, e, want[node])
	}
	for _, node := range []int{-1, len(x.Nodes), math.MinInt, math.MaxInt} {
		_, e := groups.Sub(l, x, node)
		expectError(t, "Sub of no node", e, api.ErrArg)
	}
	_, e := groups.Sub(l, text(), 0)
	expectError(t, "Sub without nodes", e, api.ErrArg)
}

// P2.9
func TestSplice(t *testing.T) {
	l := list(t)
	x := []tree{glyph(0), example(), ring(honour(glyph(0), rich())), gap(1, 2)}
	with := []tree{honour(rich(), glyph(3)), glyph(4)}
	for from := 0; from <= len(x); from++ {
		for to := from; to <= len(x); to++ {
			got, e := groups.Splice(l, text(x...), from, to, text(with...))
			expectText(t, "Splice", got, e, text(slices.Concat(x[:from], with, x[to:])...))
			got, e = groups.Splice(l, text(x...), from, to, text())
			expectText(t, "Splice of nothing", got, e, text(slices.Concat(x[:from], x[to:])...))
		}
	}
	got, e := groups.Splice(l, text(), 0, 0, text(with...))
	expectText(t, "Splice into nothing", got, e, text(with...))
	got, e = groups.Splice(l, text(), 0, 0, text())
	expectText(t, "Splice of nothing into nothing", got, e, text())
}

// P2.9: the errors, in their order.
func TestSpliceErrors(t *testing.T) {
	l := list(t)
	x := text(glyph(0), example())
	for _, span := range [][2]int{{-1, 0}, {-1, -1}, {1, 0}, {0, 3}, {3, 3}, {2, 1}, {math.MinInt, 1}, {0, math.MaxInt}, {math.MaxInt, math.MinInt}} {
		_, e := groups.Splice(l, x, span[0], span[1], text())
		expectError(t, "Splice of no groups", e, api.ErrArg)
		_, e = groups.Splice(l, x, span[0], span[1], text(glyphs(200)...))
		expectError(t, "Splice of no groups by too many", e, api.ErrArg)
		_, e = groups.Splice(l, x, span[0], span[1], text(glyph(9)))
		expectError(t, "Splice of no groups by a text that is not valid", e, api.ErrSign)
		_, e = groups.Splice(l, brokenText(), span[0], span[1], text(glyph(9)))
		expectError(t, "Splice of a text that is not valid", e, api.ErrDepth)
	}
	_, e := groups.Splice(l, x, 0, 0, text(glyphs(201)...))
	expectError(t, "Splice by too long a text", e, api.ErrMany)
	got, e := groups.Splice(l, text(glyphs(150)...), 100, 100, text(glyphs(50)...))
	expectText(t, "Splice to the longest text", got, e, text(glyphs(200)...))
	got, e = groups.Splice(l, text(glyphs(150)...), 100, 100, text(glyphs(51)...))
	if len(got.Nodes) > 0 {
		t.Errorf("Splice to too long a text = %v", got)
	}
	expectError(t, "Splice to too long a text", e, api.ErrMany)
	got, e = groups.Splice(l, text(glyphs(200)...), 10, 20, text(slices.Repeat([]tree{glyph(1)}, 10)...))
	expectText(t, "Splice of the longest text", got, e, text(slices.Concat(glyphs(10), slices.Repeat([]tree{glyph(1)}, 10), glyphs(180))...))
}

// P2.10
func TestMirror(t *testing.T) {
	l := list(t)
	flipped := func(sign int) tree { return leaf(api.Node{Kind: api.Glyph, Sign: sign, Mirror: true}) }
	back := rich()
	back.node.Mirror = false
	got, e := groups.Mirror(l, text(example(), ring(rich(), gap(1, 2)), honour(glyph(3), over(glyph(0), glyph(4)))))
	expectText(t, "Mirror", got, e, text(beside(flipped(0), above(flipped(1), flipped(2))), ring(back, gap(1, 2)), honour(glyph(3), over(flipped(0), glyph(4)))))
	got, e = groups.Mirror(l, text())
	expectText(t, "Mirror of no nodes", got, e, text())
}

// P2.12
func TestFlat(t *testing.T) {
	l := list(t)
	six := []tree{glyph(0), glyph(1), glyph(2), gap(1, 9), rich(), glyph(4)}
	for _, c := range []struct{ text, want []tree }{
		{nil, nil},
		{[]tree{example(), rich(), gap(1, 2)}, []tree{glyph(0), glyph(1), glyph(2), rich(), gap(1, 2)}},
		{[]tree{honour(above(rich(), glyph(1)), over(glyph(3), glyph(4)))}, []tree{glyph(3), glyph(4), rich(), glyph(1)}},
		{[]tree{ring(honour(above(rich(), glyph(1)), gap(0, 1)))}, []tree{ring(gap(0, 1), rich(), glyph(1))}},
		{[]tree{ring(six...)}, []tree{ring(six...)}},
		{[]tree{ring(above(six...))}, []tree{ring(six...)}},
		{[]tree{glyph(1), ring(above(six...), glyph(3)), ring(glyph(4))}, slices.Concat([]tree{glyph(1)}, six, []tree{glyph(3), ring(glyph(4))})},
		{[]tree{ring(honour(above(six...), glyph(3)))}, slices.Concat([]tree{glyph(3)}, six)},
	} {
		got, e := groups.Flat(l, text(c.text...))
		expectText(t, "Flat", got, e, text(c.want...))
	}
}
