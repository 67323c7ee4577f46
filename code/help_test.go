package code_test

import (
	"slices"
	"testing"

	"ostracon/api"
	"ostracon/code"
	"ostracon/groups"
	"ostracon/signs"
)

var kinds = []int{code.Line, code.Tree}

// list has the signs 0 to 3, that are not even, and 4, that is; the code of 3
// is as long as codes may be, and that of 4 has but one byte.
func list(t *testing.T) api.List {
	t.Helper()
	l, _, e := signs.Parse("periods 1\nA1 12x12\nB2 6x3\nC3 4x4\nSign0123 1x1\nE 1x2 =\n")
	if e != api.OK {
		t.Fatal(e)
	}
	return l
}

// brokenList is a list whose error of Check no other error of a function is.
func brokenList() api.List {
	return api.List{Periods: 1, Signs: []api.Sign{{Code: "A1", Wide: 13, High: 1}}}
}

// brokenText is a text whose error of Check no other error of a function is.
func brokenText() api.Text {
	return api.Text{Nodes: []api.Node{{Kind: api.Glyph, Depth: 1}}}
}

func text(nodes ...api.Node) api.Text {
	return api.Text{Nodes: nodes}
}

func glyph(depth, sign int) api.Node {
	return api.Node{Kind: api.Glyph, Depth: depth, Sign: sign}
}

func state(depth, sign, state int) api.Node {
	return api.Node{Kind: api.Glyph, Depth: depth, Sign: sign, State: state}
}

func turned(depth, sign, turn int, mirror bool) api.Node {
	return api.Node{Kind: api.Glyph, Depth: depth, Sign: sign, Turn: turn, Mirror: mirror}
}

func gap(depth, least, most int) api.Node {
	return api.Node{Kind: api.Gap, Depth: depth, Min: least, Max: most}
}

func branch(kind, depth int) api.Node {
	return api.Node{Kind: kind, Depth: depth}
}

// sample is a text in all its codes; the tree code lacks something of it if
// tree is a star.
type sample struct {
	line, tree, pretty string
	text               api.Text
}

func samples() []sample {
	return []sample{
		{"", "", "", text()},
		{"A1", "A1", "A1\n", text(glyph(0, 0))},
		{"Sign0123-E", "Sign0123 E", "Sign0123\nE\n", text(glyph(0, 3), glyph(0, 4))},
		{`A1\`, `A1\`, "A1\\\n", text(turned(0, 0, 0, true))},
		{`B2/1-B2\/2-E/3`, `B2/1 B2\/2 E/3`, "B2/1\nB2\\/2\nE/3\n", text(turned(0, 1, 1, false), turned(0, 1, 2, true), turned(0, 4, 3, false))},
		{"A1#-A1=-A1!", "*", "A1#\nA1=\nA1!\n", text(state(0, 0, api.Damaged), state(0, 0, api.Hatched), state(0, 0, api.Usurped))},
		{`A1\/3!`, "*", "A1\\/3!\n", text(api.Node{Kind: api.Glyph, Turn: 3, Mirror: true, State: api.Usurped})},
		{"{1-1}-{9-9}", "? ?????????", "{1-1}\n{9-9}\n", text(gap(0, 1, 1), gap(0, 9, 9))},
		{"{0-1}-{3-8}", "*", "{0-1}\n{3-8}\n", text(gap(0, 0, 1), gap(0, 3, 8))},
		{"A1&B2/1", "(over A1 B2/1)", "over\n  A1\n  B2/1\n", text(branch(api.Over, 0), glyph(1, 0), turned(1, 1, 1, false))},
		{"A1*B2*{2-2}", "(beside A1 B2 ??)", "beside\n  A1\n  B2\n  {2-2}\n", text(branch(api.Beside, 0), glyph(1, 0), glyph(1, 1), gap(1, 2, 2))},
		{"A1:B2:C3", "(above A1 B2 C3)", "above\n  A1\n  B2\n  C3\n", text(branch(api.Above, 0), glyph(1, 0), glyph(1, 1), glyph(1, 2))},
		{"A1*B2:C3", "(above (beside A1 B2) C3)", "above\n  beside\n    A1\n    B2\n  C3\n", text(branch(api.Above, 0), branch(api.Beside, 1), glyph(2, 0), glyph(2, 1), glyph(1, 2))},
		{"A1*(B2:C3)", "(beside A1 (above B2 C3))", "beside\n  A1\n  above\n    B2\n    C3\n", text(branch(api.Beside, 0), glyph(1, 0), branch(api.Above, 1), glyph(2, 1), glyph(2, 2))},
		{"(A1:B2)*(B2:A1)", "(beside (above A1 B2) (above B2 A1))", "beside\n  above\n    A1\n    B2\n  above\n    B2\n    A1\n", text(branch(api.Beside, 0), branch(api.Above, 1), glyph(2, 0), glyph(2, 1), branch(api.Above, 1), glyph(2, 1), glyph(2, 0))},
		{"A1&B2*C3:A1&B2", "(above (beside (over A1 B2) C3) (over A1 B2))", "above\n  beside\n    over\n      A1\n      B2\n    C3\n  over\n    A1\n    B2\n", text(branch(api.Above, 0), branch(api.Beside, 1), branch(api.Over, 2), glyph(3, 0), glyph(3, 1), glyph(2, 2), branch(api.Over, 1), glyph(2, 0), glyph(2, 1))},
		{"A1*(B2:C3*(A1:B2))", "(beside A1 (above B2 (beside C3 (above A1 B2))))", "beside\n  A1\n  above\n    B2\n    beside\n      C3\n      above\n        A1\n        B2\n", text(branch(api.Beside, 0), glyph(1, 0), branch(api.Above, 1), glyph(2, 1), branch(api.Beside, 2), glyph(3, 2), branch(api.Above, 3), glyph(4, 0), glyph(4, 1))},
		{"<A1>", "(ring A1)", "ring\n  A1\n", text(branch(api.Ring, 0), glyph(1, 0))},
		{"<A1:B2-{1-1}-C3&E>", "(ring (above A1 B2) ? (over C3 E))", "ring\n  above\n    A1\n    B2\n  {1-1}\n  over\n    C3\n    E\n", text(branch(api.Ring, 0), branch(api.Above, 1), glyph(2, 0), glyph(2, 1), gap(1, 1, 1), branch(api.Over, 1), glyph(2, 2), glyph(2, 4))},
		{"[A1;B2:C3]", "(honour A1 (above B2 C3))", "honour\n  A1\n  above\n    B2\n    C3\n", text(branch(api.Honour, 0), glyph(1, 0), branch(api.Above, 1), glyph(2, 1), glyph(2, 2))},
		{"<[A1:B2;C3]>-E", "(ring (honour (above A1 B2) C3)) E", "ring\n  honour\n    above\n      A1\n      B2\n    C3\nE\n", text(branch(api.Ring, 0), branch(api.Honour, 1), branch(api.Above, 2), glyph(3, 0), glyph(3, 1), glyph(2, 2), glyph(0, 4))},
	}
}

// in is the sample in a code; ok tells whether that can say it.
func (s sample) in(kind int) (out string, ok bool) {
	if kind == code.Line {
		return s.line, true
	}
	return s.tree, s.tree != "*"
}

// dice give a fixed series of numbers, so that every run of the tests is alike.
type dice uint64

func (d *dice) below(n int) int {
	*d = *d*6364136223846793005 + 1442695040888963407
	return int(uint64(*d)>>33) % n
}

func pick[E any](d *dice, from []E) E {
	return from[d.below(len(from))]
}

// text returns a valid text.
func (d *dice) text() api.Text {
	var nodes []api.Node
	for range d.below(5) {
		nodes = d.grow(nodes, 0, 0)
	}
	if len(nodes) > api.MaxNodes {
		return text()
	}
	return text(nodes...)
}

// grow puts a node that may stand within one of a kind (0: a group), and all
// below it, behind other nodes.
func (d *dice) grow(nodes []api.Node, within, depth int) []api.Node {
	kind := d.kind(within, depth)
	least, most := 2, api.MaxKids
	switch kind {
	case api.Glyph:
		return append(nodes, d.glyph(depth))
	case api.Gap:
		most := 1 + d.below(api.MaxGap)
		return append(nodes, gap(depth, d.below(most+1), most))
	case api.Over:
		return append(nodes, branch(kind, depth), d.glyph(depth+1), d.glyph(depth+1))
	case api.Ring:
		least = 1
		if d.below(3) == 0 {
			nodes = append(nodes, branch(kind, depth))
			kind, depth, least = api.Honour, depth+1, 2
		}
	}
	nodes = append(nodes, branch(kind, depth))
	for range least + d.below(most-least+1) {
		nodes = d.grow(nodes, kind, depth+1)
	}
	return nodes
}

// kind returns a kind that a node may have at a depth within one of a kind.
func (d *dice) kind(within, depth int) int {
	if depth == api.MaxDepth {
		return api.Glyph
	}
	small := []int{api.Glyph, api.Glyph, api.Gap, api.Over}
	switch within {
	case 0:
		return pick(d, append(small, api.Beside, api.Above, api.Ring, api.Honour))
	case api.Above:
		return pick(d, append(small, api.Beside))
	}
	return pick(d, append(small, api.Above))
}

func (d *dice) glyph(depth int) api.Node {
	n := turned(depth, d.below(5), d.below(4), false)
	n.Mirror = n.Sign != 4 && d.below(2) == 0
	if d.below(3) == 0 {
		n.State = 1 + d.below(3)
	}
	return n
}

// whole returns an equal text, but without all that the tree code lacks.
func whole(x api.Text) api.Text {
	y := text(slices.Clone(x.Nodes)...)
	for i := range y.Nodes {
		y.Nodes[i].State = api.Whole
		y.Nodes[i].Min = y.Nodes[i].Max
	}
	return y
}

// rolls calls a test for many valid texts.
func rolls(t *testing.T, seed int, test func(d *dice, x api.Text)) {
	t.Helper()
	d := dice(seed)
	l := list(t)
	for range 1500 {
		x := d.text()
		if e := groups.Check(l, x); e != api.OK {
			t.Fatalf("Check(%v) = %d", x, e)
		}
		test(&d, x)
	}
}

func mustWrite(t *testing.T, kind int, l api.List, x api.Text) string {
	t.Helper()
	s, e := code.Write(kind, l, x)
	if e != api.OK {
		t.Fatalf("Write(%d, %v): %d", kind, x, e)
	}
	return s
}

func mustRead(t *testing.T, kind int, l api.List, s string) api.Text {
	t.Helper()
	x, at, e := code.Read(kind, l, s)
	if e != api.OK || at != 0 {
		t.Fatalf("Read(%d, %q): at %d, %d", kind, s, at, e)
	}
	return x
}

func expectError(t *testing.T, what string, e, want api.Errno) {
	t.Helper()
	if e != want {
		t.Errorf("%s gives the error %d, want %d", what, e, want)
	}
}

// expectStop expects an error of Read, and no text with it.
func expectStop(t *testing.T, kind int, l api.List, s string, at int, want api.Errno) {
	t.Helper()
	x, got, e := code.Read(kind, l, s)
	if got != at || e != want || len(x.Nodes) != 0 {
		t.Errorf("Read(%d, %.80q) = %v, at %d, %d, want at %d, %d", kind, s, x, got, e, at, want)
	}
}
