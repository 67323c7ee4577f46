package grid

import (
	"ostracon/api"
	"ostracon/groups"
)

const (
	// betweenGroups is the least length between two groups of a line, and between two lines.
	betweenGroups = 24
	lineStep      = api.Side + betweenGroups
)

// The ways of a page.
const (
	rowsFromLeft = iota + 1
	rowsFromRight
	columnsFromLeft
	columnsFromRight
)

// way says how lines stand on a page.
type way struct {
	columns, mirrored bool
	along, across     axis
}

func wayOf(number int) way {
	w := way{along: sideways(), across: downwards()}
	switch number {
	case columnsFromRight:
		w.mirrored = true
		fallthrough
	case columnsFromLeft:
		w.columns = true
		w.along, w.across = w.across, w.along
	case rowsFromRight:
		w.mirrored = true
	}
	return w
}

// turned makes what is along and across the lines of what is sideways and
// downwards, and the other way round.
func turned[T any](w way, a, b T) (T, T) {
	if w.columns {
		return b, a
	}
	return a, b
}

// block is a group where it stands.
type block struct {
	shape         shape
	scale         api.Frac
	along, across api.Frac // its extent
	line, start   int
}

// prepare returns the nodes of a text as it stands on the wall, and what makes shapes of them.
func prepare(l api.List, t api.Text, p api.Page) ([]api.Node, builder, api.Errno) {
	plain, e := groups.Plain(l, t)
	if e != api.OK {
		return nil, builder{}, e
	}
	if e := Check(p); e != api.OK {
		return nil, builder{}, e
	}
	return plain.Nodes, builder{l, wayOf(p.Way)}, api.OK
}

// arrange returns the groups of a text where they stand on a page.
func arrange(l api.List, t api.Text, p api.Page) ([]block, api.Errno) {
	nodes, b, e := prepare(l, t, p)
	if e != api.OK {
		return nil, e
	}
	var blocks []block
	line, start := 0, 0
	for _, s := range b.shapes(nodes) {
		g := newBlock(s, b.way)
		if start > 0 && compare(g.endFrom(start), whole(p.Length)) > 0 {
			line, start = line+1, 0
		}
		g.line, g.start = line, start
		blocks = append(blocks, g)
		start = ceiling(g.endFrom(start)) + betweenGroups
	}
	return blocks, api.OK
}

// newBlock returns a group that has its scale and its extent, but no place yet.
func newBlock(s shape, w way) block {
	wide, high := s.size()
	along, across := turned(w, wide, high)
	longest := max(wide, high)
	if _, ok := s.(ring); ok {
		// A ring has to fit across its line alone: it may be as long as it needs.
		longest = across
	}
	scale := fraction(api.Side, max(api.Side, longest))
	return block{shape: s, scale: scale, along: times(scale, along), across: times(scale, across)}
}

// endFrom returns where the group ends if it begins at a place along its line.
func (g block) endFrom(start int) api.Frac {
	return plus(whole(start), g.along)
}

// corner returns where the corner at the left and the top of the group stands.
func (g block) corner(w way) (x, y api.Frac) {
	margin := quotient(minus(whole(api.Side), g.across), 2)
	return turned(w, whole(g.start), plus(whole(lineStep*g.line), margin))
}

// boxes returns the boxes of the group.
func (g block) boxes(w way) []api.Box {
	x, y := g.corner(w)
	var boxes []api.Box
	for _, p := range g.shape.pieces(0, 0) {
		b := boxOf(p.node)
		b.X, b.Y = plus(x, times(g.scale, p.x)), plus(y, times(g.scale, p.y))
		b.W, b.H = times(g.scale, p.wide), times(g.scale, p.high)
		if w.mirrored {
			b = mirrored(b)
		}
		boxes = append(boxes, b)
	}
	return boxes
}

// boxOf returns a box without a place.
func boxOf(n api.Node) api.Box {
	return api.Box{Kind: n.Kind, Sign: n.Sign, Turn: n.Turn, Mirror: n.Mirror, State: n.State, Min: n.Min, Max: n.Max}
}

// nodeOf returns the node of a box at a depth.
func nodeOf(b api.Box, depth int) api.Node {
	return api.Node{Kind: b.Kind, Depth: depth, Sign: b.Sign, Turn: b.Turn, Mirror: b.Mirror, State: b.State, Min: b.Min, Max: b.Max}
}
