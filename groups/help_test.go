package groups_test

import (
	"reflect"
	"slices"
	"testing"

	"ostracon/api"
	"ostracon/groups"
	"ostracon/signs"
)

// list has the signs 0, 1, 2, that are not even, and 3 and 4, that are.
func list(t *testing.T) api.List {
	t.Helper()
	l, _, e := signs.Parse("periods 1\nA1 12x12\nB2 6x3\nC3 4x4\nD4 4x4 =\nE5 1x2 =\n")
	if e != api.OK {
		t.Fatal(e)
	}
	return l
}

// brokenList is a list whose error of Check no text has.
func brokenList() api.List {
	return api.List{Periods: 1, Signs: []api.Sign{{Code: "a", Wide: 1, High: 1}}}
}

// brokenText is a text whose error of Check no other error of a function is.
func brokenText() api.Text {
	return api.Text{Nodes: []api.Node{{Kind: api.Glyph, Depth: 1}}}
}

// tree is a node with its kids in it. Texts are made of trees, so that what is
// expected of them can be said without a look at their depths.
type tree struct {
	node api.Node
	kids []tree
}

func leaf(n api.Node) tree { return tree{node: n} }

func glyph(sign int) tree { return leaf(api.Node{Kind: api.Glyph, Sign: sign}) }

func gap(least, most int) tree { return leaf(api.Node{Kind: api.Gap, Min: least, Max: most}) }

func branch(kind int, kids ...tree) tree { return tree{api.Node{Kind: kind}, kids} }

func beside(kids ...tree) tree { return branch(api.Beside, kids...) }

func above(kids ...tree) tree { return branch(api.Above, kids...) }

func over(kids ...tree) tree { return branch(api.Over, kids...) }

func ring(kids ...tree) tree { return branch(api.Ring, kids...) }

func honour(kids ...tree) tree { return branch(api.Honour, kids...) }

func (x tree) nodes(depth int) []api.Node {
	n := x.node
	n.Depth = depth
	all := []api.Node{n}
	for _, k := range x.kids {
		all = append(all, k.nodes(depth+1)...)
	}
	return all
}

func (x tree) is(kind int) bool { return x.node.Kind == kind }

func text(trees ...tree) api.Text {
	var t api.Text
	for _, x := range trees {
		t.Nodes = append(t.Nodes, x.nodes(0)...)
	}
	return t
}

// glyphs are n glyphs of the sign 0.
func glyphs(n int) []tree {
	return slices.Repeat([]tree{glyph(0)}, n)
}

// read are the leaves of a tree in the order in which they are read.
func (x tree) read() []tree {
	if len(x.kids) == 0 {
		return []tree{x}
	}
	var first, others []tree
	for i, k := range x.kids {
		if i == 0 && x.is(api.Honour) {
			first = k.read()
		} else {
			others = append(others, k.read()...)
		}
	}
	return append(others, first...)
}

func (x tree) mark() api.Mark {
	if x.is(api.Gap) {
		return api.Mark{Sign: -1, Min: x.node.Min, Max: x.node.Max}
	}
	return api.Mark{Sign: x.node.Sign, State: x.node.State}
}

func marks(trees []tree) []api.Mark {
	var all []api.Mark
	for _, x := range trees {
		for _, r := range x.read() {
			all = append(all, r.mark())
		}
	}
	return all
}

func spans(trees []tree) []groups.Span {
	var all []groups.Span
	for i, x := range trees {
		if x.is(api.Ring) {
			from := len(marks(trees[:i]))
			all = append(all, groups.Span{From: from, To: from + len(x.read())})
		}
	}
	return all
}

// plain are trees without honours.
func plain(trees []tree) []tree {
	var all []tree
	for _, x := range trees {
		if x.is(api.Honour) {
			x = beside(x.kids...)
		}
		if x.is(api.Ring) && x.kids[0].is(api.Honour) {
			x = ring(x.kids[0].kids...)
		}
		all = append(all, x)
	}
	return all
}

// flat are the leaves of trees, those of short rings in rings.
func flat(trees []tree) []tree {
	var all []tree
	for _, x := range trees {
		if read := x.read(); x.is(api.Ring) && len(read) <= 6 {
			all = append(all, ring(read...))
		} else {
			all = append(all, read...)
		}
	}
	return all
}

// mayHold has the kinds of the kids that a node of each kind may have; those
// of 0 are the groups. An honour in a ring is alone there besides.
var mayHold = map[int][]int{
	0:          {api.Glyph, api.Gap, api.Beside, api.Above, api.Over, api.Honour, api.Ring},
	api.Beside: {api.Glyph, api.Gap, api.Over, api.Above},
	api.Above:  {api.Glyph, api.Gap, api.Over, api.Beside},
	api.Over:   {api.Glyph},
	api.Ring:   {api.Glyph, api.Gap, api.Over, api.Above, api.Honour},
	api.Honour: {api.Glyph, api.Gap, api.Over, api.Above},
}

// dice give a fixed series of numbers, so that every run of the tests is alike.
type dice uint64

func (d *dice) below(n int) int {
	*d = *d*6364136223846793005 + 1442695040888963407
	return int(uint64(*d)>>33) % n
}

// trees returns the trees of a valid text.
func (d *dice) trees() []tree {
	var all []tree
	for range d.below(5) {
		all = append(all, d.tree(0, 0))
	}
	if len(text(all...).Nodes) > 150 {
		return nil
	}
	return all
}

// tree returns a tree that may stand at a depth within a node of a kind.
func (d *dice) tree(within, depth int) tree {
	kinds := mayHold[within]
	kind := kinds[d.below(len(kinds))]
	if depth == api.MaxDepth || kind == api.Honour && within != 0 {
		kind = api.Glyph
	}
	switch kind {
	case api.Glyph:
		return d.glyph()
	case api.Gap:
		most := 1 + d.below(9)
		return gap(d.below(most+1), most)
	case api.Over:
		return over(d.glyph(), d.glyph())
	case api.Ring:
		if d.below(3) == 0 {
			return ring(branch(api.Honour, d.kids(api.Honour, depth+2, 2)...))
		}
		return branch(kind, d.kids(kind, depth+1, 1)...)
	}
	return branch(kind, d.kids(kind, depth+1, 2)...)
}

func (d *dice) kids(kind, depth, least int) []tree {
	var kids []tree
	for range least + d.below(7-least) {
		kids = append(kids, d.tree(kind, depth))
	}
	return kids
}

func (d *dice) glyph() tree {
	n := api.Node{Kind: api.Glyph, Sign: d.below(5), Turn: d.below(4), State: d.below(4)}
	n.Mirror = n.Sign < 3 && d.below(2) == 0
	return leaf(n)
}

// wild returns a text that need not be valid in any way.
func (d *dice) wild() api.Text {
	var t api.Text
	for range d.below(6) {
		n := api.Node{Kind: d.number(), Depth: d.number()}
		if d.below(2) == 0 {
			n.Depth = len(t.Nodes)
		}
		if d.below(4) == 0 {
			n = api.Node{Kind: d.number(), Depth: d.number(), Sign: d.number(), Turn: d.number(), Mirror: d.below(2) == 0, State: d.number(), Min: d.number(), Max: d.number()}
		}
		t.Nodes = append(t.Nodes, n)
	}
	return t
}

func (d *dice) number() int {
	numbers := []int{0, 1, 2, 3, 4, 5, 6, 7, 9, 10, 200, -1, -1 << 63, 1<<63 - 1}
	return numbers[d.below(len(numbers))]
}

func cloneText(t api.Text) api.Text {
	return api.Text{Nodes: append([]api.Node(nil), t.Nodes...)}
}

// listed are the results of a call in a form that can be compared, nil lists as empty ones.
func listed(results ...any) []any {
	for i, r := range results {
		if t, ok := r.(api.Text); ok {
			results[i] = cloneText(t)
		} else if v := reflect.ValueOf(r); v.Kind() == reflect.Slice && v.Len() == 0 {
			results[i] = nil
		}
	}
	return results
}

// calls are the results of all functions of the package for some arguments;
// those of all but Same end with the error.
func calls(l api.List, t, u api.Text, from, to int) map[string][]any {
	all := map[string][]any{"Check": listed(groups.Check(l, t)), "Same": listed(groups.Same(t, u))}
	kids, e := groups.Kids(l, t, from)
	all["Kids"] = listed(kids, e)
	found, e := groups.Groups(l, t)
	all["Groups"] = listed(found, e)
	line, e := groups.Line(l, t)
	all["Line"] = listed(line, e)
	order, e := groups.Order(l, t)
	all["Order"] = listed(order, e)
	rings, e := groups.Rings(l, t)
	all["Rings"] = listed(rings, e)
	alike, e := groups.Alike(l, t, u)
	all["Alike"] = listed(alike, e)
	counts, e := groups.Tally(l, t)
	all["Tally"] = listed(counts, e)
	for name, call := range edits(l, t, u, from, to) {
		r, e := call()
		all[name] = listed(r, e)
	}
	return all
}

// edits are the functions that return a text.
func edits(l api.List, t, u api.Text, from, to int) map[string]func() (api.Text, api.Errno) {
	return map[string]func() (api.Text, api.Errno){
		"Plain":  func() (api.Text, api.Errno) { return groups.Plain(l, t) },
		"Sub":    func() (api.Text, api.Errno) { return groups.Sub(l, t, from) },
		"Splice": func() (api.Text, api.Errno) { return groups.Splice(l, t, from, to, u) },
		"Mirror": func() (api.Text, api.Errno) { return groups.Mirror(l, t) },
		"Flat":   func() (api.Text, api.Errno) { return groups.Flat(l, t) },
	}
}

func expectText(t *testing.T, what string, got api.Text, e api.Errno, want api.Text) {
	t.Helper()
	if e != api.OK || !slices.Equal(got.Nodes, want.Nodes) {
		t.Errorf("%s = %v, %d, want %v", what, got, e, want)
	}
}

func expectList[E comparable](t *testing.T, what string, got []E, e api.Errno, want ...E) {
	t.Helper()
	if e != api.OK || !slices.Equal(got, want) {
		t.Errorf("%s = %v, %d, want %v", what, got, e, want)
	}
}

func expectError(t *testing.T, what string, e, want api.Errno) {
	t.Helper()
	if e != want {
		t.Errorf("%s gives the error %d, want %d", what, e, want)
	}
}
