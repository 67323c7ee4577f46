package groups_test

import (
	"math"
	"slices"
	"testing"

	"ostracon/api"
	"ostracon/groups"
)

func expectCheck(t *testing.T, text api.Text, want api.Errno) {
	t.Helper()
	if e := groups.Check(list(t), text); e != want {
		t.Errorf("Check(%v) = %d, want %d", text, e, want)
	}
}

// P2.1, 1: the list, then the number of nodes.
func TestCheckAll(t *testing.T) {
	expectCheck(t, text(), api.OK)
	expectCheck(t, api.Text{Nodes: []api.Node{}}, api.OK)
	expectCheck(t, text(glyphs(200)...), api.OK)
	expectCheck(t, text(glyphs(201)...), api.ErrMany)
	many := text(glyphs(201)...)
	many.Nodes[0].Kind = 0
	expectCheck(t, many, api.ErrMany)
	expectError(t, "Check with no list", groups.Check(api.List{}, many), api.ErrPeriod)
	expectError(t, "Check with a broken list", groups.Check(brokenList(), text()), api.ErrCode)
	empty := api.List{Periods: 1}
	expectError(t, "Check of nothing without signs", groups.Check(empty, text()), api.OK)
	expectError(t, "Check of a gap without signs", groups.Check(empty, text(gap(1, 1))), api.OK)
	expectError(t, "Check of a glyph without signs", groups.Check(empty, text(glyph(0))), api.ErrSign)
}

// P2.1, 2: kinds.
func TestCheckKind(t *testing.T) {
	for _, kind := range []int{0, 8, -1, math.MinInt, math.MaxInt} {
		expectCheck(t, text(branch(kind)), api.ErrNode)
		expectCheck(t, api.Text{Nodes: []api.Node{{Kind: kind, Depth: -1, Sign: -1}}}, api.ErrNode)
	}
}

// P2.1, 2: depths.
func TestCheckDepth(t *testing.T) {
	for kind := api.Glyph; kind <= api.Honour; kind++ {
		for _, depth := range []int{-1, 1, 4, 5, math.MinInt, math.MaxInt} {
			expectCheck(t, api.Text{Nodes: []api.Node{{Kind: kind, Depth: depth, Sign: -1, Min: -1}}}, api.ErrDepth)
		}
	}
	at := func(depths ...int) api.Text {
		x := text(beside(above(glyph(0), glyph(0)), glyph(0)), glyph(0))
		for i, d := range depths {
			x.Nodes[i].Depth = d
		}
		return x
	}
	expectCheck(t, at(0, 1, 2, 2, 1, 0), api.OK)
	for _, depths := range [][]int{{0, 2}, {0, -1}, {0, 1, 3}, {0, 1, 2, 3}, {0, 1, 2, 2, 3}, {0, 1, 2, 2, 1, 2}, {0, 1, 2, 2, 1, -1}, {0, math.MaxInt}, {0, math.MinInt}} {
		expectCheck(t, at(depths...), api.ErrDepth)
	}
	expectCheck(t, text(beside(gap(1, 1), glyph(0)), gap(1, 1)), api.OK)
	expectCheck(t, api.Text{Nodes: []api.Node{{Kind: api.Gap, Max: 1}, {Kind: api.Glyph, Depth: 1}}}, api.ErrDepth)
	deep := beside(glyph(0), above(glyph(0), beside(glyph(0), above(glyph(0), glyph(0)))))
	expectCheck(t, text(deep), api.OK)
	expectCheck(t, text(above(glyph(0), deep)), api.ErrDepth)
	expectCheck(t, text(above(glyph(0), beside(glyph(0), above(glyph(0), beside(glyph(0), branch(api.Above)))))), api.ErrNode)
}

// P2.1, 2: glyphs.
func TestCheckGlyph(t *testing.T) {
	for _, c := range []struct {
		node api.Node
		want api.Errno
	}{
		{api.Node{Sign: 4}, api.OK}, {api.Node{Sign: 5}, api.ErrSign}, {api.Node{Sign: -1}, api.ErrSign}, {api.Node{Sign: math.MinInt}, api.ErrSign}, {api.Node{Sign: math.MaxInt}, api.ErrSign},
		{api.Node{Turn: 3}, api.OK}, {api.Node{Turn: 4}, api.ErrNode}, {api.Node{Turn: -1}, api.ErrNode}, {api.Node{Sign: 3, Turn: 2}, api.OK},
		{api.Node{State: api.Damaged}, api.OK}, {api.Node{State: api.Hatched}, api.OK}, {api.Node{State: api.Usurped}, api.OK}, {api.Node{State: 4}, api.ErrNode}, {api.Node{State: -1}, api.ErrNode},
		{api.Node{Sign: 2, Mirror: true}, api.OK}, {api.Node{Sign: 3, Mirror: true}, api.ErrNode}, {api.Node{Sign: 3, Turn: 1, Mirror: true}, api.ErrNode},
		{api.Node{Min: 1}, api.ErrNode}, {api.Node{Max: 1}, api.ErrNode}, {api.Node{Min: -1}, api.ErrNode}, {api.Node{Min: 1, Max: 1}, api.ErrNode},
		{api.Node{Sign: 5, Turn: 4, State: 4, Mirror: true, Min: 1}, api.ErrSign},
	} {
		c.node.Kind = api.Glyph
		expectCheck(t, text(leaf(c.node)), c.want)
		expectCheck(t, text(glyph(0), beside(glyph(0), leaf(c.node))), c.want)
	}
}

// P2.1, 2: gaps.
func TestCheckGap(t *testing.T) {
	for _, c := range []struct {
		least, most int
		want        api.Errno
	}{
		{0, 1, api.OK}, {1, 1, api.OK}, {9, 9, api.OK}, {0, 9, api.OK}, {3, 5, api.OK},
		{0, 0, api.ErrGap}, {-1, 1, api.ErrGap}, {2, 1, api.ErrGap}, {1, 0, api.ErrGap}, {0, 10, api.ErrGap}, {10, 10, api.ErrGap}, {10, 9, api.ErrGap}, {-2, -1, api.ErrGap}, {math.MinInt, math.MaxInt, api.ErrGap},
	} {
		expectCheck(t, text(gap(c.least, c.most)), c.want)
		expectCheck(t, text(ring(glyph(0), gap(c.least, c.most))), c.want)
	}
	for _, n := range []api.Node{{Sign: 1}, {Sign: -1}, {Turn: 1}, {Mirror: true}, {State: api.Damaged}} {
		n.Kind, n.Max = api.Gap, 1
		expectCheck(t, text(leaf(n)), api.ErrNode)
		n.Max = 0
		expectCheck(t, text(leaf(n)), api.ErrGap)
	}
}

// P2.1, 2: fields of groups that are not in use.
func TestCheckUnused(t *testing.T) {
	for _, n := range []api.Node{{Sign: 1}, {Sign: -1}, {Turn: 1}, {Mirror: true}, {State: 1}, {Min: 1}, {Max: 1}, {}} {
		want := api.ErrNode
		if n == (api.Node{}) {
			want = api.OK
		}
		for _, kind := range []int{api.Beside, api.Above, api.Over, api.Ring, api.Honour} {
			n.Kind = kind
			expectCheck(t, text(tree{n, glyphs(2)}), want)
		}
	}
}

// P2.1: the error of the first node, before all errors of kids.
func TestCheckOrder(t *testing.T) {
	lonely := beside(glyph(0))
	expectCheck(t, text(lonely, glyph(5)), api.ErrSign)
	expectCheck(t, text(lonely, gap(0, 0)), api.ErrGap)
	expectCheck(t, text(lonely, branch(8)), api.ErrNode)
	expectCheck(t, text(gap(0, 0), glyph(5)), api.ErrGap)
	expectCheck(t, text(glyph(5), gap(0, 0)), api.ErrSign)
	expectCheck(t, text(branch(8), gap(0, 0)), api.ErrNode)
	expectCheck(t, text(glyph(5), branch(8)), api.ErrSign)
	deep := text(lonely, glyph(5))
	deep.Nodes[2].Depth = 2
	expectCheck(t, deep, api.ErrDepth)
}

// P2.1, 3: how many kids a node has, and which.
func TestCheckKids(t *testing.T) {
	fewest := map[int]int{api.Beside: 2, api.Above: 2, api.Over: 2, api.Ring: 1, api.Honour: 2}
	most := map[int]int{api.Beside: 6, api.Above: 6, api.Over: 2, api.Ring: 6, api.Honour: 6}
	for kind := range fewest {
		for n := range 9 {
			want := api.ErrNode
			if fewest[kind] <= n && n <= most[kind] {
				want = api.OK
			}
			expectCheck(t, text(branch(kind, glyphs(n)...)), want)
			expectCheck(t, text(glyph(0), branch(kind, glyphs(n)...), glyph(0)), want)
			if kind == api.Honour {
				expectCheck(t, text(ring(branch(kind, glyphs(n)...))), want)
			}
		}
	}
	// Nodes further below are no kids.
	expectCheck(t, text(beside(slices.Repeat([]tree{above(glyphs(6)...)}, 6)...)), api.OK)
	expectCheck(t, text(beside(above(glyphs(6)...))), api.ErrNode)
}

// P2.1, 3: the kinds of the kids, wherever they stand.
func TestCheckKindsOfKids(t *testing.T) {
	sample := map[int]tree{
		api.Glyph: glyph(0), api.Gap: gap(1, 1), api.Beside: beside(glyphs(2)...), api.Above: above(glyphs(2)...), api.Over: over(glyphs(2)...),
		api.Ring: ring(glyphs(2)...), api.Honour: honour(glyphs(2)...),
	}
	for _, kind := range []int{api.Beside, api.Above, api.Over, api.Ring, api.Honour} {
		for kid, x := range sample {
			want := api.ErrNode
			if slices.Contains(mayHold[kind], kid) && kid != api.Honour {
				want = api.OK
			}
			expectCheck(t, text(branch(kind, x, glyph(0))), want)
			expectCheck(t, text(branch(kind, glyph(0), x)), want)
		}
	}
	expectCheck(t, text(ring(honour(glyphs(2)...))), api.OK)
	expectCheck(t, text(ring(honour(glyphs(2)...), honour(glyphs(2)...))), api.ErrNode)
	expectCheck(t, text(ring(beside(glyphs(2)...))), api.ErrNode)
	expectCheck(t, text(ring(above(glyph(0), beside(glyphs(2)...)))), api.OK)
	expectCheck(t, text(honour(above(glyph(0), beside(glyphs(2)...)), glyph(0))), api.OK)
	expectCheck(t, text(honour(above(glyph(0), honour(glyphs(2)...)), glyph(0))), api.ErrNode)
	expectCheck(t, text(beside(above(glyph(0), ring(glyphs(2)...)), glyph(0))), api.ErrNode)
}

// treesOf returns all trees of so many nodes that may stand within a node of a kind.
func treesOf(size, within int) []tree {
	if size == 1 {
		if within == api.Over {
			return []tree{glyph(0)}
		}
		return []tree{glyph(0), gap(1, 1)}
	}
	var all []tree
	for _, kind := range mayHold[within] {
		if kind == api.Glyph || kind == api.Gap {
			continue
		}
		for _, kids := range forests(size-1, kind) {
			if len(kids) == 1 && kind != api.Ring || len(kids) != 2 && kind == api.Over || len(kids) > 6 {
				continue
			}
			all = append(all, branch(kind, kids...))
		}
	}
	return all
}

// forests returns all lists of trees of so many nodes together that may stand within a node of a kind.
func forests(size, within int) [][]tree {
	if size == 0 {
		return [][]tree{nil}
	}
	var all [][]tree
	for first := 1; first <= size; first++ {
		for _, x := range treesOf(first, within) {
			for _, others := range forests(size-first, within) {
				forest := append([]tree{x}, others...)
				if within == 0 || len(forest) == 1 || !slices.ContainsFunc(forest, func(x tree) bool { return x.is(api.Honour) }) {
					all = append(all, forest)
				}
			}
		}
	}
	return all
}

// P2.1: of all short texts just those are valid that can be built of trees.
func TestCheckShortTexts(t *testing.T) {
	const size = 5
	valid := map[[size]api.Node]bool{}
	for _, forest := range forests(size, 0) {
		valid[[size]api.Node(text(forest...).Nodes)] = true
	}
	l, found := list(t), 0
	var nodes [size]api.Node
	var try func(at, depth int)
	try = func(at, depth int) {
		if at == size {
			e := groups.Check(l, api.Text{Nodes: nodes[:]})
			if (e == api.OK) != valid[nodes] || e != api.OK && e != api.ErrNode && e != api.ErrDepth {
				t.Fatalf("Check(%v) = %d", nodes, e)
			}
			if e == api.OK {
				found++
			}
			return
		}
		for d := range depth + 1 {
			for kind := api.Glyph; kind <= api.Honour; kind++ {
				nodes[at] = api.Node{Kind: kind, Depth: d}
				if kind == api.Gap {
					nodes[at].Min, nodes[at].Max = 1, 1
				}
				try(at+1, d+1)
			}
		}
	}
	try(0, 0)
	if found != len(valid) || found < 100 {
		t.Errorf("%d texts of %d are valid", found, len(valid))
	}
}
