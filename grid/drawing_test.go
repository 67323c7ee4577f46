package grid_test

import (
	"math/big"
	"slices"
	"testing"

	"ostracon/api"
	"ostracon/grid"
)

// drawing lays texts out as the document says it, with fractions of any size;
// what the package returns is compared with it.
type drawing struct {
	list api.List
	page api.Page
}

// spot is a leaf or a ring where it stands.
type spot struct {
	node                  api.Node
	left, top, wide, high *big.Rat
}

func rat(num, den int) *big.Rat { return big.NewRat(int64(num), int64(den)) }

func add(a, b *big.Rat) *big.Rat { return new(big.Rat).Add(a, b) }

func sub(a, b *big.Rat) *big.Rat { return new(big.Rat).Sub(a, b) }

func mul(a, b *big.Rat) *big.Rat { return new(big.Rat).Mul(a, b) }

func half(a *big.Rat) *big.Rat { return mul(a, rat(1, 2)) }

func least(a *big.Rat, others ...*big.Rat) *big.Rat {
	for _, b := range others {
		if b.Cmp(a) < 0 {
			a = b
		}
	}
	return a
}

func frac(a *big.Rat) api.Frac {
	return api.Frac{Num: int(a.Num().Int64()), Den: int(a.Denom().Int64())}
}

// ratOf is a fraction that need not be reduced.
func ratOf(a api.Frac) *big.Rat { return rat(a.Num, a.Den) }

func (d drawing) columns() bool { return d.page.Way >= 3 }

// plain are trees without honours.
func plain(trees []tree) []tree {
	var all []tree
	for _, x := range trees {
		switch {
		case x.is(api.Honour):
			x = branch(api.Beside, x.kids...)
		case x.is(api.Ring) && x.kids[0].is(api.Honour):
			x = branch(api.Ring, x.kids[0].kids...)
		}
		all = append(all, x)
	}
	return all
}

// row tells whether the kids of a node stand side by side, and their space.
func (d drawing) row(x tree, depth int) (sideways bool, space int) {
	switch x.node.Kind {
	case api.Ring:
		return !d.columns(), 20
	case api.Beside:
		return true, 4 * (5 - depth)
	}
	return false, 4 * (5 - depth)
}

func (d drawing) size(x tree, depth int) (wide, high int) {
	switch x.node.Kind {
	case api.Glyph:
		s := d.list.Signs[x.node.Sign]
		if x.node.Turn == 1 || x.node.Turn == 3 {
			return 4 * s.High, 4 * s.Wide
		}
		return 4 * s.Wide, 4 * s.High
	case api.Gap:
		return 12 * x.node.Max, 24
	case api.Over:
		return d.size(x.kids[0], depth+1)
	}
	sideways, space := d.row(x, depth)
	along, across := -space, 0
	for _, k := range x.kids {
		w, h := d.size(k, depth+1)
		if !sideways {
			w, h = h, w
		}
		along, across = along+space+w, max(across, h)
	}
	if x.is(api.Ring) {
		along, across = along+24, across+24
	}
	if sideways {
		return along, across
	}
	return across, along
}

// draw returns the spots of a tree whose corner stands somewhere, in natural size.
func (d drawing) draw(x tree, depth int, left, top *big.Rat) []spot {
	w, h := d.size(x, depth)
	wide, high := rat(w, 1), rat(h, 1)
	own := spot{x.node, left, top, wide, high}
	var spots []spot
	switch x.node.Kind {
	case api.Glyph, api.Gap:
		return []spot{own}
	case api.Over:
		own.node = x.kids[0].node
		inner := spot{x.kids[1].node, add(left, half(half(wide))), add(top, half(half(high))), half(wide), half(high)}
		return []spot{own, inner}
	case api.Ring:
		spots = []spot{own}
		left, top, wide, high = add(left, rat(12, 1)), add(top, rat(12, 1)), sub(wide, rat(24, 1)), sub(high, rat(24, 1))
	}
	sideways, space := d.row(x, depth)
	for _, k := range x.kids {
		w, h := d.size(k, depth+1)
		if sideways {
			spots = append(spots, d.draw(k, depth+1, left, add(top, half(sub(high, rat(h, 1)))))...)
			left = add(left, rat(w+space, 1))
		} else {
			spots = append(spots, d.draw(k, depth+1, add(left, half(sub(wide, rat(w, 1)))), top)...)
			top = add(top, rat(h+space, 1))
		}
	}
	return spots
}

func (d drawing) scale(x tree) *big.Rat {
	wide, high := d.size(x, 0)
	byWidth, byHeight := rat(48, wide), rat(48, high)
	switch {
	case !x.is(api.Ring):
		return least(rat(1, 1), byWidth, byHeight)
	case d.columns():
		return least(rat(1, 1), byWidth)
	}
	return least(rat(1, 1), byHeight)
}

// all returns the boxes of trees without honours, and the groups of each line.
func (d drawing) all(trees []tree) (boxes []api.Box, lines [][]int) {
	next := 0
	for i, x := range trees {
		w, h := d.size(x, 0)
		scale := d.scale(x)
		along, across := mul(rat(w, 1), scale), mul(rat(h, 1), scale)
		if d.columns() {
			along, across = across, along
		}
		if len(lines) == 0 || add(rat(next, 1), along).Cmp(rat(d.page.Length, 1)) > 0 {
			lines = append(lines, nil)
			next = 0
		}
		line := len(lines) - 1
		lines[line] = append(lines[line], i)
		left, top := rat(next, 1), add(rat(72*line, 1), half(sub(rat(48, 1), across)))
		if d.columns() {
			left, top = top, left
		}
		for _, s := range d.draw(x, 0, rat(0, 1), rat(0, 1)) {
			boxes = append(boxes, d.box(s, scale, left, top))
		}
		next = roundUp(add(rat(next, 1), along)) + 24
	}
	return boxes, lines
}

// roundUp returns the least whole number that is not less than a, which is at least 0.
func roundUp(a *big.Rat) int {
	whole := new(big.Int).Quo(a.Num(), a.Denom())
	up := int(whole.Int64())
	if rat(up, 1).Cmp(a) < 0 {
		up++
	}
	return up
}

func (d drawing) box(s spot, scale, left, top *big.Rat) api.Box {
	x, y := add(left, mul(s.left, scale)), add(top, mul(s.top, scale))
	wide, high := mul(s.wide, scale), mul(s.high, scale)
	if d.page.Way == 2 || d.page.Way == 4 {
		x = new(big.Rat).Neg(add(x, wide))
	}
	n := s.node
	return api.Box{
		Kind: n.Kind, Sign: n.Sign, Turn: n.Turn, Mirror: n.Mirror, State: n.State, Min: n.Min, Max: n.Max,
		X: frac(x), Y: frac(y), W: frac(wide), H: frac(high),
	}
}

// P4.5, P4.4, P4.3: any text stands where the drawing has it.
func TestLayAsDrawn(t *testing.T) {
	l := list(t)
	rolls(t, 1, func(d *dice, trees []tree, x api.Text) {
		p := d.page()
		drawn := drawing{l, p}
		boxes, lines := drawn.all(plain(trees))
		if got := mustLay(t, x, p); !slices.Equal(got, boxes) {
			t.Fatalf("Lay(%v, %v) = %v, want %v", x, p, got, boxes)
		}
		got, e := grid.Lines(l, x, p)
		if e != api.OK || !slices.EqualFunc(got, lines, slices.Equal) {
			t.Fatalf("Lines(%v, %v) = %v, %d, want %v", x, p, got, e, lines)
		}
		for i, g := range plain(trees) {
			if s, e := grid.Scale(l, x, p, i); s != frac(drawn.scale(g)) || e != api.OK {
				t.Fatalf("Scale(%v, %v, %d) = %v, %d, want %v", x, p, i, s, e, drawn.scale(g))
			}
		}
	})
}

// sizes are the natural sizes of the nodes of a tree, in order.
func (d drawing) sizes(x tree, depth int) [][2]int {
	wide, high := d.size(x, depth)
	all := [][2]int{{wide, high}}
	kids, below := x.kids, depth+1
	if x.is(api.Ring) && kids[0].is(api.Honour) {
		honoured := branch(api.Ring, kids[0].kids...)
		wide, high = d.size(honoured, depth)
		all = [][2]int{{wide, high}, {wide - 24, high - 24}}
		kids = honoured.kids
	}
	for _, k := range kids {
		all = append(all, d.sizes(k, below)...)
	}
	return all
}

// P4.2: any node has the size that the drawing gives it.
func TestNaturalAsDrawn(t *testing.T) {
	l := list(t)
	rolls(t, 2, func(d *dice, trees []tree, x api.Text) {
		p := d.page()
		var want [][2]int
		for _, g := range trees {
			if g.is(api.Honour) {
				g = branch(api.Beside, g.kids...)
			}
			want = append(want, drawing{l, p}.sizes(g, 0)...)
		}
		for i := range x.Nodes {
			w, h, e := grid.Natural(l, x, p, i)
			if e != api.OK || [2]int{w, h} != want[i] {
				t.Fatalf("Natural(%v, %v, %d) = %d, %d, %d, want %v", x, p, i, w, h, e, want[i])
			}
		}
	})
}
