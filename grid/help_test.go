package grid_test

import (
	"slices"
	"testing"

	"ostracon/api"
	"ostracon/code"
	"ostracon/grid"
	"ostracon/groups"
	"ostracon/signs"
)

// Signs of the list, by their numbers; evenSign alone looks the same in a mirror.
const (
	evenSign  = 3
	countSign = 7
)

func list(t *testing.T) api.List {
	t.Helper()
	l, _, e := signs.Parse("periods 1\nA1 12x12\nB2 6x3\nC3 3x6\nD4 1x1 =\nE5 12x1\nF6 1x12\nG7 5x7\n")
	if e != api.OK {
		t.Fatal(e)
	}
	return l
}

// brokenList is a list whose error of Check no other error of a function is.
func brokenList() api.List {
	return api.List{Periods: 1, Signs: []api.Sign{{Code: "A1", Wide: 13, High: 1}}}
}

// brokenText is a text whose error of Check no other error of a function is.
func brokenText() api.Text {
	return api.Text{Nodes: []api.Node{{Kind: api.Glyph, Depth: 1}}}
}

// page is a page on which all groups of a short text stand in one line.
func page(way int) api.Page {
	return api.Page{Way: way, Length: api.MaxPage}
}

func ways() []int { return []int{1, 2, 3, 4} }

// line reads a text in the line code.
func line(t *testing.T, s string) api.Text {
	t.Helper()
	x, at, e := code.Read(code.Line, list(t), s)
	if e != api.OK {
		t.Fatalf("Read(%q): at %d, %d", s, at, e)
	}
	return x
}

func mustLay(t *testing.T, x api.Text, p api.Page) []api.Box {
	t.Helper()
	boxes, e := grid.Lay(list(t), x, p)
	if e != api.OK {
		t.Fatalf("Lay(%v, %v): %d", x, p, e)
	}
	return boxes
}

func mustPlain(t *testing.T, x api.Text) api.Text {
	t.Helper()
	plain, e := groups.Plain(list(t), x)
	if e != api.OK {
		t.Fatalf("Plain(%v): %d", x, e)
	}
	return plain
}

func n(n int) api.Frac { return api.Frac{Num: n, Den: 1} }

func f(num, den int) api.Frac { return api.Frac{Num: num, Den: den} }

// area is a box that is nothing but a place.
func area(x, y, w, h api.Frac) api.Box {
	return api.Box{X: x, Y: y, W: w, H: h}
}

func place(b api.Box) [4]api.Frac {
	return [4]api.Frac{b.X, b.Y, b.W, b.H}
}

func expectError(t *testing.T, what string, e, want api.Errno) {
	t.Helper()
	if e != want {
		t.Errorf("%s gives the error %d, want %d", what, e, want)
	}
}

// dice give a fixed series of numbers, so that every run of the tests is alike.
type dice uint64

func (d *dice) below(n int) int {
	*d = *d*6364136223846793005 + 1442695040888963407
	return int(uint64(*d)>>33) % n
}

func pick[E any](d *dice, from ...E) E {
	return from[d.below(len(from))]
}

// shuffled are the same boxes in another order.
func (d *dice) shuffled(boxes []api.Box) []api.Box {
	boxes = slices.Clone(boxes)
	for i := range boxes {
		j := i + d.below(len(boxes)-i)
		boxes[i], boxes[j] = boxes[j], boxes[i]
	}
	return boxes
}

func (d *dice) page() api.Page {
	return api.Page{Way: 1 + d.below(4), Length: pick(d, 48, 49, 60, 100, 120, 200, 500, 4800)}
}

// tree is a node with its kids in it.
type tree struct {
	node api.Node
	kids []tree
}

func (x tree) is(kind int) bool { return x.node.Kind == kind }

func (x tree) nodes(depth int) []api.Node {
	n := x.node
	n.Depth = depth
	all := []api.Node{n}
	for _, k := range x.kids {
		all = append(all, k.nodes(depth+1)...)
	}
	return all
}

func text(trees ...tree) api.Text {
	var t api.Text
	for _, x := range trees {
		t.Nodes = append(t.Nodes, x.nodes(0)...)
	}
	return t
}

// grow returns the trees of a text.
func grow(nodes []api.Node) []tree {
	var all []tree
	for i := 0; i < len(nodes); {
		end := i + 1
		for end < len(nodes) && nodes[end].Depth > nodes[i].Depth {
			end++
		}
		all = append(all, tree{nodes[i], grow(nodes[i+1 : end])})
		i = end
	}
	return all
}

func branch(kind int, kids ...tree) tree { return tree{api.Node{Kind: kind}, kids} }

func glyph(sign int) tree { return tree{node: api.Node{Kind: api.Glyph, Sign: sign}} }

// mayHold has the kinds of the kids that a node of each kind may have; those
// of 0 are the groups. An honour in a ring is alone there.
var mayHold = map[int][]int{
	0:          {api.Glyph, api.Gap, api.Beside, api.Above, api.Over, api.Honour, api.Ring},
	api.Beside: {api.Glyph, api.Gap, api.Over, api.Above},
	api.Above:  {api.Glyph, api.Gap, api.Over, api.Beside},
	api.Over:   {api.Glyph},
	api.Ring:   {api.Glyph, api.Gap, api.Over, api.Above},
	api.Honour: {api.Glyph, api.Gap, api.Over, api.Above},
}

// trees returns the trees of a valid text.
func (d *dice) trees() []tree {
	var all []tree
	for range d.below(7) {
		next := append(slices.Clone(all), d.tree(0, 0))
		if len(text(next...).Nodes) <= api.MaxNodes {
			all = next
		}
	}
	return all
}

// tree returns a tree that may stand at a depth within a node of a kind.
func (d *dice) tree(within, depth int) tree {
	kind := pick(d, mayHold[within]...)
	if depth == api.MaxDepth {
		kind = api.Glyph
	}
	switch kind {
	case api.Glyph:
		return d.glyph()
	case api.Gap:
		most := 1 + d.below(9)
		return tree{node: api.Node{Kind: api.Gap, Min: d.below(most + 1), Max: most}}
	case api.Over:
		return branch(kind, d.glyph(), d.glyph())
	case api.Ring:
		if d.below(3) == 0 {
			return branch(kind, branch(api.Honour, d.kids(api.Honour, depth+2, 2)...))
		}
		return branch(kind, d.kids(kind, depth+1, 1)...)
	}
	return branch(kind, d.kids(kind, depth+1, 2)...)
}

func (d *dice) kids(kind, depth, least int) []tree {
	var kids []tree
	for range least + d.below(pick(d, 2, 3, api.MaxKids+1-least)) {
		kids = append(kids, d.tree(kind, depth))
	}
	return kids
}

func (d *dice) glyph() tree {
	n := api.Node{Kind: api.Glyph, Sign: d.below(countSign), Turn: d.below(4), State: d.below(4)}
	n.Mirror = n.Sign != evenSign && d.below(2) == 0
	return tree{node: n}
}

// rolls calls a test for many valid texts.
func rolls(t *testing.T, seed int, test func(d *dice, trees []tree, x api.Text)) {
	t.Helper()
	d := dice(seed)
	l := list(t)
	for range 1500 {
		trees := d.trees()
		x := text(trees...)
		if e := groups.Check(l, x); e != api.OK {
			t.Fatalf("Check(%v) = %d", x, e)
		}
		test(&d, trees, x)
	}
}
