package grid_test

import (
	"slices"
	"testing"

	"ostracon/api"
	"ostracon/grid"
	"ostracon/groups"
)

func expectRead(t *testing.T, what any, boxes []api.Box, p api.Page, want api.Text) {
	t.Helper()
	if got, e := grid.Read(list(t), boxes, p); e != api.OK || !groups.Same(got, want) {
		t.Errorf("Read of %v on %v = %v, %d, want %v", what, p, got, e, want)
	}
}

// expectNoText expects that no text has these boxes, for Read and for Relay.
func expectNoText(t *testing.T, what any, boxes []api.Box, p api.Page) {
	t.Helper()
	if got, e := grid.Read(list(t), boxes, p); e != api.ErrBoxes || len(got.Nodes) != 0 {
		t.Errorf("Read of %v on %v = %v, %d, want the error %d", what, p, got, e, api.ErrBoxes)
	}
	if got, e := grid.Relay(list(t), boxes, p, page(1)); e != api.ErrBoxes || len(got) != 0 {
		t.Errorf("Relay of %v from %v = %v, %d, want the error %d", what, p, got, e, api.ErrBoxes)
	}
}

// P4.6: boxes whose places are written out.
func TestReadBoxes(t *testing.T) {
	big := api.Box{Kind: api.Glyph, Sign: 0, X: n(0), Y: f(264, 23), W: f(576, 23), H: f(576, 23)}
	small := api.Box{Kind: api.Glyph, Sign: 1, State: api.Damaged, X: f(816, 23), Y: f(480, 23), W: f(288, 23), H: f(144, 23)}
	expectRead(t, "nothing", nil, page(1), api.Text{})
	expectRead(t, "A1*B2#", []api.Box{big, small}, page(1), line(t, "A1*B2#"))
	expectRead(t, "A1*B2# from behind", []api.Box{small, big}, page(1), line(t, "A1*B2#"))
	ring := api.Box{Kind: api.Ring, X: n(-48), Y: n(6), W: n(48), H: n(36)}
	gap := api.Box{Kind: api.Gap, Min: 1, Max: 2, X: n(-36), Y: n(12), W: n(24), H: n(24)}
	ring.Y, ring.H = n(0), n(48)
	expectRead(t, "<{1-2}>", []api.Box{gap, ring}, page(2), line(t, "<{1-2}>"))
}

// hard are texts whose boxes stand so that another text might be thought of.
func hard() []string {
	return []string{
		"", "A1", "A1-A1", "A1*A1", "A1:A1", "A1&A1", "<A1>", "<A1-A1>", "<A1:A1>", "<A1&A1>",
		"(A1:A1)*(A1:A1)", "A1*A1:A1*A1", "<(A1:A1)*A1:A1>", "<A1:A1-A1:A1>", "<A1*A1:A1-A1*A1:A1>", "A1*(A1:A1*A1)", "(A1:A1*A1)*(A1:A1*A1)",
		"A1*A1*(A1:A1)", "A1*(A1:A1)*A1", "A1*(A1*A1:A1*A1)", "A1*A1:A1*A1:A1*A1", "(A1:A1:A1)*(A1:A1:A1)", "A1*(A1:A1*(A1:A1))", "(A1:A1*(A1:A1))*(A1:A1*(A1:A1))",
		"A1&A1*A1&A1", "A1&A1:A1&A1", "A1&A1*A1&A1:A1&A1*A1&A1", "<A1&A1-A1&A1:A1&A1>", "D4&A1", "D4&A1*A1", "E5&E5:F6&F6", "A1&D4-D4&A1",
		"{0-1}", "{0-9}*{9-9}", "{1-1}:{0-2}", "<{0-3}-{1-3}>", "{2-3}*({2-3}:{3-3})", "A1*{0-4}",
		"E5:E5:E5:E5:E5:E5", "F6*F6*F6*F6*F6*F6", "<E5-E5-E5-E5-E5-E5>", "<F6-F6-F6-F6-F6-F6>", "<E5>-<F6>-<E5:F6>", "<F6*F6:F6*F6>",
		"D4*(D4:D4*(D4:D4))", "D4:D4*(D4:D4*D4)", "D4-<D4:D4*(D4:D4)>-D4", `B2\/1#-B2/3=-B2\!`, "D4/1-D4/2-D4/3",
		"A1*A1-A1:A1-A1*A1-<A1-A1>-A1", "<A1-B2:C3>-A1&B2-{0-3}", "A1-<E5-E5-E5-E5-E5>-A1", "A1-<F6-F6-F6-F6-F6>-A1",
	}
}

// P4.6, P4.7, P4.13, P4.14
func TestReadHard(t *testing.T) {
	l, d := list(t), dice(4)
	for _, s := range hard() {
		x := line(t, s)
		for _, way := range ways() {
			for _, length := range []int{48, 100, 4800} {
				p, other := api.Page{Way: way, Length: length}, d.page()
				boxes := d.shuffled(mustLay(t, x, p))
				expectRead(t, s, boxes, p, x)
				got, e := grid.Relay(l, boxes, p, other)
				if want := mustLay(t, x, other); e != api.OK || !slices.Equal(got, want) {
					t.Errorf("Relay of %q from %v to %v = %v, %d, want %v", s, p, other, got, e, want)
				}
			}
		}
	}
}

// square returns all trees that may stand within a node of a kind, at a depth,
// and have so many leaves, all of them the same square sign.
func square(within, depth, leaves int) []tree {
	var all []tree
	if leaves == 1 {
		all = append(all, glyph(0))
	}
	if depth == api.MaxDepth {
		return all
	}
	if leaves == 2 {
		all = append(all, branch(api.Over, glyph(0), glyph(0)))
	}
	for _, kind := range mayHold[within] {
		if kind != api.Beside && kind != api.Above && kind != api.Ring {
			continue
		}
		for _, kids := range squares(kind, depth+1, leaves) {
			if (len(kids) > 1 || kind == api.Ring) && len(kids) <= api.MaxKids {
				all = append(all, branch(kind, kids...))
			}
		}
	}
	return all
}

// squares returns all lists of such trees that have so many leaves together.
func squares(within, depth, leaves int) [][]tree {
	if leaves == 0 {
		return [][]tree{nil}
	}
	var all [][]tree
	for first := 1; first <= leaves; first++ {
		for _, x := range square(within, depth, first) {
			for _, others := range squares(within, depth, leaves-first) {
				all = append(all, append([]tree{x}, others...))
			}
		}
	}
	return all
}

// P4.6, P4.13: of all texts of a few equal squares each one is read as itself,
// so that no two of them have the same boxes.
func TestReadAllSquares(t *testing.T) {
	d := dice(5)
	count := 0
	for leaves := range 6 {
		for _, trees := range squares(0, 0, leaves) {
			x := text(trees...)
			count++
			for _, way := range ways() {
				p := api.Page{Way: way, Length: 130}
				expectRead(t, x, d.shuffled(mustLay(t, x, p)), p, x)
			}
		}
	}
	if count < 1000 {
		t.Errorf("there are only %d texts", count)
	}
}

// P4.6, P4.13: any text is read as it stands on the wall, from boxes in any order.
func TestReadOfLay(t *testing.T) {
	rolls(t, 6, func(d *dice, trees []tree, x api.Text) {
		p := d.page()
		expectRead(t, x, d.shuffled(mustLay(t, x, p)), p, mustPlain(t, x))
	})
}

// six is a node with as many kids as it may have, all of them equal.
func six(kind int, x tree) tree {
	return branch(kind, slices.Repeat([]tree{x}, api.MaxKids)...)
}

// longest are texts with as many nodes, or as large a group, as there may be.
func longest() [][]tree {
	gap := tree{node: api.Node{Kind: api.Gap, Max: api.MaxGap}}
	pair := branch(api.Beside, glyph(0), glyph(1))
	return [][]tree{
		slices.Repeat([]tree{glyph(5)}, api.MaxNodes),
		append(slices.Repeat([]tree{pair}, 66), glyph(1), glyph(2)),
		{branch(api.Beside, slices.Repeat([]tree{six(api.Above, six(api.Beside, gap))}, 4)...)},
		{branch(api.Above, slices.Repeat([]tree{six(api.Beside, six(api.Above, glyph(0)))}, 4)...)},
		{branch(api.Ring, slices.Repeat([]tree{six(api.Above, six(api.Beside, glyph(0)))}, 4)...)},
		{branch(api.Ring, six(api.Above, six(api.Beside, gap)), six(api.Above, glyph(0)), glyph(3))},
	}
}

// P4.6, P4.13
func TestReadLongest(t *testing.T) {
	d := dice(7)
	for _, trees := range longest() {
		for _, way := range ways() {
			for _, length := range []int{48, 4800} {
				p := api.Page{Way: way, Length: length}
				expectRead(t, "a long text", d.shuffled(mustLay(t, text(trees...), p)), p, text(trees...))
			}
		}
	}
}

// P4.6: what no text looks like, because the tree that does is not valid.
func TestReadWrongTrees(t *testing.T) {
	a, d := glyph(0), glyph(3)
	beside, above, ring := api.Beside, api.Above, api.Ring
	gap := tree{node: api.Node{Kind: api.Gap, Min: 1, Max: 2}}
	deep := branch(beside, a, branch(above, a, branch(beside, a, branch(above, a, branch(beside, a, d)))))
	for what, trees := range map[string][]tree{
		"a row within a row":        {branch(beside, branch(beside, a, d), a)},
		"a column within a column":  {branch(above, a, branch(above, d, d))},
		"a row within a ring":       {branch(ring, branch(beside, a, d), a)},
		"a row alone within a ring": {branch(ring, branch(beside, a, d))},
		"seven kids beside":         {branch(beside, slices.Repeat([]tree{d}, 7)...)},
		"seven kids above":          {branch(above, slices.Repeat([]tree{a}, 7)...)},
		"seven kids in a ring":      {branch(ring, slices.Repeat([]tree{a}, 7)...)},
		"a depth of 5":              {deep},
		"a gap over a sign":         {branch(api.Over, a, gap)},
		"a sign over a gap":         {branch(api.Over, gap, a)},
		"an over over a sign":       {branch(api.Over, branch(api.Over, a, a), a)},
		"a ring within a ring":      {branch(ring, branch(ring, a))},
		"a ring within a row":       {branch(beside, branch(ring, a), a)},
		"a ring over a sign":        {branch(api.Over, branch(ring, a), a)},
		"201 nodes":                 append(slices.Repeat([]tree{branch(beside, a, d)}, 66), branch(beside, a, d)),
		"202 nodes":                 append(slices.Repeat([]tree{branch(above, a, d)}, 66), a, a, a, a),
	} {
		for _, way := range ways() {
			p := page(way)
			boxes, _ := drawing{list(t), p}.all(trees)
			expectNoText(t, what, boxes, p)
		}
	}
}
