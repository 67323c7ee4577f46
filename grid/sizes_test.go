package grid_test

import (
	"math"
	"slices"
	"testing"

	"ostracon/api"
	"ostracon/grid"
)

// P4.1
func TestCheck(t *testing.T) {
	for _, c := range []struct {
		way, length int
		want        api.Errno
	}{
		{1, 48, api.OK}, {2, 49, api.OK}, {3, 4799, api.OK}, {4, 4800, api.OK},
		{0, 48, api.ErrPage}, {5, 48, api.ErrPage}, {-1, 48, api.ErrPage}, {math.MinInt, 48, api.ErrPage}, {math.MaxInt, 48, api.ErrPage},
		{1, 47, api.ErrPage}, {2, 4801, api.ErrPage}, {3, 0, api.ErrPage}, {4, -48, api.ErrPage}, {1, math.MinInt, api.ErrPage}, {1, math.MaxInt, api.ErrPage},
	} {
		p := api.Page{Way: c.way, Length: c.length}
		if e := grid.Check(p); e != c.want {
			t.Errorf("Check(%v) = %d, want %d", p, e, c.want)
		}
	}
}

// P4.2: the sizes of nodes in rows and in columns.
func TestNatural(t *testing.T) {
	for _, c := range []struct {
		text          string
		node          int
		rows, columns [2]int
	}{
		{"A1", 0, [2]int{48, 48}, [2]int{48, 48}},
		{"B2", 0, [2]int{24, 12}, [2]int{24, 12}},
		{"B2/1", 0, [2]int{12, 24}, [2]int{12, 24}},
		{"B2/2", 0, [2]int{24, 12}, [2]int{24, 12}},
		{`B2\/3#`, 0, [2]int{12, 24}, [2]int{12, 24}},
		{"{0-1}", 0, [2]int{12, 24}, [2]int{12, 24}},
		{"{3-9}", 0, [2]int{108, 24}, [2]int{108, 24}},
		{"B2&A1", 0, [2]int{24, 12}, [2]int{24, 12}},
		{"B2&A1", 1, [2]int{24, 12}, [2]int{24, 12}},
		{"B2&A1", 2, [2]int{48, 48}, [2]int{48, 48}},
		{"A1*B2*D4", 0, [2]int{116, 48}, [2]int{116, 48}},
		{"A1:B2:D4", 0, [2]int{48, 104}, [2]int{48, 104}},
		{"A1*(B2:C3)", 0, [2]int{92, 52}, [2]int{92, 52}},
		{"A1*(B2:C3)", 2, [2]int{24, 52}, [2]int{24, 52}},
		{"A1*(B2:C3*D4)", 4, [2]int{28, 24}, [2]int{28, 24}},
		{"A1*(B2:C3*(D4:E5))", 6, [2]int{48, 16}, [2]int{48, 16}},
		{"A1*(B2:C3*(D4:E5))", 4, [2]int{72, 24}, [2]int{72, 24}},
		{"A1*(B2:C3*(D4:E5))", 0, [2]int{140, 52}, [2]int{140, 52}},
		{"<B2>", 0, [2]int{48, 36}, [2]int{48, 36}},
		{"<A1-B2>", 0, [2]int{116, 72}, [2]int{72, 104}},
		{"<A1-B2>", 2, [2]int{24, 12}, [2]int{24, 12}},
		{"<A1:B2>", 0, [2]int{72, 100}, [2]int{72, 100}},
		{"<A1:B2>", 1, [2]int{48, 76}, [2]int{48, 76}},
		{"[A1;B2]", 0, [2]int{92, 48}, [2]int{92, 48}},
		{"[A1;B2:C3]", 2, [2]int{24, 52}, [2]int{24, 52}},
		{"<[A1;B2]>", 0, [2]int{116, 72}, [2]int{72, 104}},
		{"<[A1;B2]>", 1, [2]int{92, 48}, [2]int{48, 80}},
		{"<[A1;B2]>", 2, [2]int{48, 48}, [2]int{48, 48}},
		{"<[A1;B2:C3]>", 0, [2]int{116, 76}, [2]int{72, 144}},
		{"<[A1;B2:C3]>", 3, [2]int{24, 52}, [2]int{24, 52}},
		{"<[A1;B2]>-<[C3;D4]>-E5", 4, [2]int{60, 48}, [2]int{36, 72}},
		{"<[A1;B2]>-<[C3;D4]>-E5", 5, [2]int{36, 24}, [2]int{12, 48}},
		{"<[A1;B2]>-<[C3;D4]>-E5", 7, [2]int{4, 4}, [2]int{4, 4}},
		{"<[A1;B2]>-<[C3;D4]>-E5", 8, [2]int{48, 4}, [2]int{48, 4}},
	} {
		x := line(t, c.text)
		for way, want := range [][2]int{c.rows, c.rows, c.columns, c.columns} {
			if w, h, e := grid.Natural(list(t), x, page(way+1), c.node); [2]int{w, h} != want || e != api.OK {
				t.Errorf("Natural(%q, way %d, %d) = %d, %d, %d, want %v", c.text, way+1, c.node, w, h, e, want)
			}
		}
	}
}

// P4.2 and P4.3: the errors, in their order.
func TestSizesErrors(t *testing.T) {
	l, x, p, bad := list(t), line(t, "<[A1;B2]>-C3"), page(1), api.Page{}
	for _, c := range []struct {
		what    string
		l       api.List
		x       api.Text
		p       api.Page
		number  int
		natural api.Errno
		scale   api.Errno
	}{
		{"the first number", l, x, p, 0, api.OK, api.OK},
		{"the number of the last group", l, x, p, 1, api.OK, api.OK},
		{"a number behind the last group", l, x, p, 2, api.OK, api.ErrArg},
		{"the number of the last node", l, x, p, 4, api.OK, api.ErrArg},
		{"a number behind the last node", l, x, p, 5, api.ErrArg, api.ErrArg},
		{"a number below 0", l, x, p, -1, api.ErrArg, api.ErrArg},
		{"the least number", l, x, p, math.MinInt, api.ErrArg, api.ErrArg},
		{"the greatest number", l, x, p, math.MaxInt, api.ErrArg, api.ErrArg},
		{"an empty text", l, api.Text{}, p, 0, api.ErrArg, api.ErrArg},
		{"a page that is not valid", l, x, bad, -1, api.ErrPage, api.ErrPage},
		{"a text that is not valid", l, brokenText(), bad, -1, api.ErrDepth, api.ErrDepth},
		{"a list that is not valid", brokenList(), brokenText(), bad, -1, api.ErrSize, api.ErrSize},
	} {
		w, h, e := grid.Natural(c.l, c.x, c.p, c.number)
		expectError(t, "Natural of "+c.what, e, c.natural)
		if e != api.OK && (w != 0 || h != 0) {
			t.Errorf("Natural of %s = %d, %d", c.what, w, h)
		}
		s, e := grid.Scale(c.l, c.x, c.p, c.number)
		expectError(t, "Scale of "+c.what, e, c.scale)
		if e != api.OK && s != (api.Frac{}) {
			t.Errorf("Scale of %s = %v", c.what, s)
		}
	}
}

// P4.3: the scales in rows and in columns.
func TestScale(t *testing.T) {
	for _, c := range []struct {
		text          string
		group         int
		rows, columns api.Frac
	}{
		{"A1", 0, n(1), n(1)},
		{"D4", 0, n(1), n(1)},
		{"A1*B2", 0, f(12, 23), f(12, 23)},
		{"A1:B2:D4", 0, f(6, 13), f(6, 13)},
		{"E5:F6", 0, f(2, 3), f(2, 3)},
		{"{9-9}", 0, f(4, 9), f(4, 9)},
		{"[A1;B2]", 0, f(12, 23), f(12, 23)},
		{"<B2>", 0, n(1), n(1)},
		{"<D4>", 0, n(1), n(1)},
		{"<A1-B2>", 0, f(2, 3), f(2, 3)},
		{"<E5-E5>", 0, n(1), f(2, 3)},
		{"<F6-F6>", 0, f(2, 3), n(1)},
		{"<[F6;F6]>", 0, f(2, 3), n(1)},
		{"<A1:B2>", 0, f(12, 25), f(2, 3)},
		{"D4-<[F6;F6]>-A1*B2", 1, f(2, 3), n(1)},
		{"D4-<[F6;F6]>-A1*B2", 2, f(12, 23), f(12, 23)},
	} {
		x := line(t, c.text)
		for way, want := range []api.Frac{c.rows, c.rows, c.columns, c.columns} {
			if s, e := grid.Scale(list(t), x, page(way+1), c.group); s != want || e != api.OK {
				t.Errorf("Scale(%q, way %d, %d) = %v, %d, want %v", c.text, way+1, c.group, s, e, want)
			}
		}
	}
}

// P4.4: where lines end.
func TestLines(t *testing.T) {
	for _, c := range []struct {
		text   string
		way    int
		length int
		want   [][]int
	}{
		{"", 1, 48, nil},
		{"A1", 1, 48, [][]int{{0}}},
		{"A1-A1", 2, 48, [][]int{{0}, {1}}},
		{"A1-A1-A1", 1, 120, [][]int{{0, 1}, {2}}},
		{"A1-A1-A1", 3, 119, [][]int{{0}, {1}, {2}}},
		{"A1-A1-A1", 4, 4800, [][]int{{0, 1, 2}}},
		// 144/5 is rounded up to 29; the next group stands from 53 to 101.
		{"A1:B2-A1", 1, 101, [][]int{{0, 1}}},
		{"A1:B2-A1", 1, 100, [][]int{{0}, {1}}},
		// The second group ends at 72 + 144/5.
		{"A1-A1:B2", 2, 101, [][]int{{0, 1}}},
		{"A1-A1:B2", 2, 100, [][]int{{0}, {1}}},
		{"A1-A1*B2-A1", 3, 100, [][]int{{0, 1}, {2}}},
		// A ring may be longer than a line, but only if it is the first one of it.
		{"<E5-E5>-D4", 1, 48, [][]int{{0}, {1}}},
		{"D4-<E5-E5>-D4", 1, 139, [][]int{{0}, {1}, {2}}},
		{"D4-<E5-E5>-D4", 1, 168, [][]int{{0, 1}, {2}}},
		{"D4-<E5-E5>-D4", 1, 196, [][]int{{0, 1, 2}}},
		// In columns the ring is 104/3 long: it stands from 28 to 63, and the last sign from 87.
		{"D4-<E5-E5>-D4", 3, 91, [][]int{{0, 1, 2}}},
		{"D4-<E5-E5>-D4", 3, 90, [][]int{{0, 1}, {2}}},
		{"D4-<F6-F6>-D4", 4, 168, [][]int{{0, 1}, {2}}},
		{"D4-<[F6;F6]>-D4", 4, 167, [][]int{{0}, {1}, {2}}},
	} {
		p := api.Page{Way: c.way, Length: c.length}
		if got, e := grid.Lines(list(t), line(t, c.text), p); e != api.OK || !slices.EqualFunc(got, c.want, slices.Equal) {
			t.Errorf("Lines(%q, %v) = %v, %d, want %v", c.text, p, got, e, c.want)
		}
	}
}

// P4.4 and P4.5: the errors, in their order.
func TestLayErrors(t *testing.T) {
	l, x, bad := list(t), line(t, "A1"), api.Page{Way: 1, Length: 47}
	for _, c := range []struct {
		what string
		l    api.List
		x    api.Text
		p    api.Page
		want api.Errno
	}{
		{"a text", l, x, page(1), api.OK},
		{"no text", l, api.Text{}, page(1), api.OK},
		{"a short page", l, x, bad, api.ErrPage},
		{"no text on a short page", l, api.Text{}, bad, api.ErrPage},
		{"a way that there is not", l, x, api.Page{Way: 5, Length: 48}, api.ErrPage},
		{"a text that is not valid", l, brokenText(), bad, api.ErrDepth},
		{"a list that is not valid", brokenList(), brokenText(), bad, api.ErrSize},
		{"too many nodes", l, api.Text{Nodes: make([]api.Node, api.MaxNodes+1)}, bad, api.ErrMany},
	} {
		boxes, e := grid.Lay(c.l, c.x, c.p)
		expectError(t, "Lay of "+c.what, e, c.want)
		lines, f := grid.Lines(c.l, c.x, c.p)
		expectError(t, "Lines of "+c.what, f, c.want)
		if len(boxes) != len(lines) || len(boxes) != 0 && c.want != api.OK {
			t.Errorf("Lay and Lines of %s = %v, %v", c.what, boxes, lines)
		}
	}
}
