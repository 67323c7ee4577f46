package grid

import (
	"ostracon/api"
	"ostracon/signs"
)

// Lengths of the natural size.
const (
	signUnit   = 4
	gapUnit    = 12
	gapHigh    = 24
	spaceUnit  = 4
	ringSpace  = 20
	ringBorder = 12
)

// shape is a node with everything below it, in its natural size.
type shape interface {
	size() (wide, high int)
	// pieces returns the leaves and rings, in order, if the corner stands at x, y.
	pieces(x, y int) []piece
}

// piece is a leaf or a ring where it stands in its group.
type piece struct {
	node             api.Node
	x, y, wide, high int
}

type glyph struct {
	node api.Node
	// The size of the sign as it is turned.
	wide, high int
}

func (g glyph) size() (wide, high int) {
	return signUnit * g.wide, signUnit * g.high
}

func (g glyph) pieces(x, y int) []piece {
	wide, high := g.size()
	return []piece{{g.node, x, y, wide, high}}
}

type gap struct {
	node api.Node
}

func (g gap) size() (wide, high int) {
	return gapUnit * g.node.Max, gapHigh
}

func (g gap) pieces(x, y int) []piece {
	wide, high := g.size()
	return []piece{{g.node, x, y, wide, high}}
}

type overlay struct {
	outer, inner glyph
}

func (o overlay) size() (wide, high int) {
	return o.outer.size()
}

// All sizes can be divided by 4, so that halves and the middles that they leave are whole.
func (o overlay) pieces(x, y int) []piece {
	wide, high := o.size()
	inner := piece{o.inner.node, x + wide/4, y + high/4, wide / 2, high / 2}
	return append(o.outer.pieces(x, y), inner)
}

type beside struct {
	space int
	kids  []shape
}

func (b beside) size() (wide, high int) {
	wide = b.space * (len(b.kids) - 1)
	for _, k := range b.kids {
		w, h := k.size()
		wide += w
		high = max(high, h)
	}
	return wide, high
}

func (b beside) pieces(x, y int) []piece {
	_, high := b.size()
	var all []piece
	for _, k := range b.kids {
		w, h := k.size()
		all = append(all, k.pieces(x, y+(high-h)/2)...)
		x += w + b.space
	}
	return all
}

type above struct {
	space int
	kids  []shape
}

func (a above) size() (wide, high int) {
	high = a.space * (len(a.kids) - 1)
	for _, k := range a.kids {
		w, h := k.size()
		wide = max(wide, w)
		high += h
	}
	return wide, high
}

func (a above) pieces(x, y int) []piece {
	wide, _ := a.size()
	var all []piece
	for _, k := range a.kids {
		w, h := k.size()
		all = append(all, k.pieces(x+(wide-w)/2, y)...)
		y += h + a.space
	}
	return all
}

type ring struct {
	node   api.Node
	inside shape
}

func (r ring) size() (wide, high int) {
	wide, high = r.inside.size()
	return wide + 2*ringBorder, high + 2*ringBorder
}

func (r ring) pieces(x, y int) []piece {
	wide, high := r.size()
	around := piece{r.node, x, y, wide, high}
	return append([]piece{around}, r.inside.pieces(x+ringBorder, y+ringBorder)...)
}

// spaceOf returns the space between the kids of a node that is no ring.
func spaceOf(depth int) int {
	return spaceUnit * (api.MaxDepth + 1 - depth)
}

// builder makes shapes of the nodes of a valid text without honours.
type builder struct {
	list api.List
	way  way
}

// shapes returns the shapes of nodes of which the first one is the least deep.
func (b builder) shapes(nodes []api.Node) []shape {
	var all []shape
	for len(nodes) > 0 {
		first := part(nodes)
		all = append(all, b.shape(first[0], first[1:]))
		nodes = nodes[len(first):]
	}
	return all
}

// part returns the first node and everything below it.
func part(nodes []api.Node) []api.Node {
	end := 1
	for end < len(nodes) && nodes[end].Depth > nodes[0].Depth {
		end++
	}
	return nodes[:end]
}

func (b builder) shape(n api.Node, below []api.Node) shape {
	switch n.Kind {
	case api.Glyph:
		return b.glyph(n)
	case api.Gap:
		return gap{n}
	case api.Over:
		return overlay{b.glyph(below[0]), b.glyph(below[1])}
	case api.Beside:
		return beside{spaceOf(n.Depth), b.shapes(below)}
	case api.Above:
		return above{spaceOf(n.Depth), b.shapes(below)}
	}
	if b.way.columns {
		return ring{n, above{ringSpace, b.shapes(below)}}
	}
	return ring{n, beside{ringSpace, b.shapes(below)}}
}

// glyph asks for the size in a list of the sign alone, because signs.Size checks
// all of the list that it is given, and a text has many glyphs.
func (b builder) glyph(n api.Node) glyph {
	alone := api.List{Periods: b.list.Periods, Signs: b.list.Signs[n.Sign : n.Sign+1]}
	wide, high, _ := signs.Size(alone, 0, n.Turn)
	return glyph{n, wide, high}
}
