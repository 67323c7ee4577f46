package edition_test

import (
	"fmt"
	"reflect"
	"slices"
	"testing"

	"ostracon/api"
	"ostracon/code"
	"ostracon/groups"
	"ostracon/signs"
)

const exampleList = "periods 1\nA1 12x12 s:nfr@1-1\nB2 6x3 s:nfr@1-1\nC3 4x4\n"

// example is the volume of the chapter's section Examples.
func example(t *testing.T) api.Volume {
	t.Helper()
	return volume(t, exampleList, "one", "A1-B2:C3", "two", "B2#-{1-2}")
}

// volume returns a volume whose list is given as text, and whose items are given by
// titles and texts in the line code that take turns.
func volume(t *testing.T, list string, items ...string) api.Volume {
	t.Helper()
	v := api.Volume{List: parseList(t, list)}
	for i := 0; i < len(items); i += 2 {
		v.Items = append(v.Items, api.Item{Title: items[i], Text: parseText(t, v.List, items[i+1])})
	}
	return v
}

func parseList(t *testing.T, s string) api.List {
	t.Helper()
	l, line, e := signs.Parse(s)
	if e != api.OK {
		t.Fatalf("signs.Parse(%q): line %d, %d", s, line, e)
	}
	return l
}

func parseText(t *testing.T, l api.List, s string) api.Text {
	t.Helper()
	x, at, e := code.Read(code.Line, l, s)
	if e != api.OK {
		t.Fatalf("code.Read(%q): at %d, %d", s, at, e)
	}
	return x
}

// many returns a volume with one sign and so many items without nodes.
func many(items int) api.Volume {
	v := api.Volume{List: api.List{Periods: 1, Signs: []api.Sign{{Code: "A", Wide: 1, High: 1}}}}
	for i := range items {
		v.Items = append(v.Items, api.Item{Title: fmt.Sprint("item ", i)})
	}
	return v
}

func glyph(depth, sign int) api.Node {
	return api.Node{Kind: api.Glyph, Depth: depth, Sign: sign}
}

// brokenList is a list whose error of Check no other error of a function is.
func brokenList() api.List {
	return api.List{Periods: 1, Signs: []api.Sign{{Code: "A1", Wide: 13, High: 1}}}
}

// broken is a volume whose error of Check, ErrDepth, no other error of a function is.
func broken() api.Volume {
	v := many(1)
	v.Items[0].Text.Nodes = []api.Node{glyph(1, 0)}
	return v
}

// marks are the marks of an item.
func marks(t *testing.T, v api.Volume, item int) []api.Mark {
	t.Helper()
	line, e := groups.Line(v.List, v.Items[item].Text)
	if e != api.OK {
		t.Fatalf("groups.Line of the item %d of %v: %d", item, v, e)
	}
	return line
}

// placesAsTold are the places of a sign.
func placesAsTold(t *testing.T, v api.Volume, sign int) []api.Place {
	t.Helper()
	var all []api.Place
	for item := range v.Items {
		for at, m := range marks(t, v, item) {
			if m.Sign == sign {
				all = append(all, api.Place{Item: item, At: at})
			}
		}
	}
	return all
}

// same reports whether two values are equal; nil lists equal empty ones.
func same(x, y any) bool { return sameValue(reflect.ValueOf(x), reflect.ValueOf(y)) }

func sameValue(x, y reflect.Value) bool {
	switch x.Kind() {
	case reflect.Interface:
		return sameValue(x.Elem(), y.Elem())
	case reflect.Slice:
		equal := x.Len() == y.Len()
		for i := 0; equal && i < x.Len(); i++ {
			equal = sameValue(x.Index(i), y.Index(i))
		}
		return equal
	case reflect.Struct:
		equal := true
		for i := 0; equal && i < x.NumField(); i++ {
			equal = sameValue(x.Field(i), y.Field(i))
		}
		return equal
	}
	return x.Type() == y.Type() && x.Equal(y)
}

func expect[T any](t *testing.T, what string, got T, e api.Errno, want T) {
	t.Helper()
	if e != api.OK || !same(got, want) {
		t.Errorf("%s = %v, %d, want %v", what, got, e, want)
	}
}

func expectError[T any](t *testing.T, what string, got T, e, want api.Errno) {
	t.Helper()
	var zero T
	if e != want || !same(got, zero) {
		t.Errorf("%s = %v, %d, want nothing, %d", what, got, e, want)
	}
}

// dice give a fixed series of numbers, so that every run of the tests is alike.
type dice uint64

func (d *dice) below(n int) int {
	*d = *d*6364136223846793005 + 1442695040888963407
	return int(uint64(*d)>>33) % n
}

func pick[E any](d *dice, from ...E) E {
	return from[d.below(len(from))]
}

// shuffled are the numbers from 0 to n-1 in some order.
func (d *dice) shuffled(n int) []int {
	var order []int
	for i := range n {
		order = slices.Insert(order, d.below(i+1), i)
	}
	return order
}

// known are some of the signs of a list, in ascending order.
func (d *dice) known(l api.List) []int {
	var some []int
	of := 1 + d.below(5)
	for sign := range l.Signs {
		if d.below(of) == 0 {
			some = append(some, sign)
		}
	}
	return some
}

// list returns a valid list. A sign has the same size in all lists, and few values, so
// that any two of them can be merged.
func (d *dice) list() api.List {
	l := api.List{Periods: 1 + d.below(3)}
	codes := []string{"A1", "B2", "C3", "D", "E5e", "Longcode", "Z"}
	for _, i := range d.shuffled(len(codes))[:d.below(len(codes)+1)] {
		s := api.Sign{Code: codes[i], Wide: 1 + i, High: 7 - i, Even: i > 4}
		for range d.below(4) {
			from := 1 + d.below(l.Periods)
			v := api.Value{Kind: pick(d, api.Sound, api.Sound, api.Word, api.Class), Text: pick(d, "a", "ab", "b"), From: from, To: min(l.Periods, from+d.below(3))}
			if e := signs.Check(api.List{Periods: l.Periods, Signs: []api.Sign{{Code: "A", Wide: 1, High: 1, Values: append(slices.Clone(s.Values), v)}}}); e == api.OK {
				s.Values = append(s.Values, v)
			}
		}
		l.Signs = append(l.Signs, s)
	}
	return l
}

// volume returns a valid volume with at most so many items.
func (d *dice) volume(items int) api.Volume {
	v := api.Volume{List: d.list()}
	for i := range d.below(items + 1) {
		title := fmt.Sprint(pick(d, "text ", "a", "~", "x y  ", "!"), i)
		v.Items = append(v.Items, api.Item{Title: title, Text: d.text(v.List)})
	}
	return v
}

// text returns a text that is valid for a list.
func (d *dice) text(l api.List) api.Text {
	var nodes []api.Node
	for range d.below(5) {
		next := d.grow(l, slices.Clone(nodes), 0, 0)
		if len(next) <= api.MaxNodes {
			nodes = next
		}
	}
	return api.Text{Nodes: nodes}
}

// grow puts a node that may stand within one of a kind (0: a group), and all below
// it, behind other nodes.
func (d *dice) grow(l api.List, nodes []api.Node, within, depth int) []api.Node {
	kind := d.kind(l, within, depth)
	least, most := 2, pick(d, 2, 3, api.MaxKids)
	switch kind {
	case api.Glyph:
		return append(nodes, d.glyph(l, depth))
	case api.Gap:
		longest := 1 + d.below(api.MaxGap)
		return append(nodes, api.Node{Kind: kind, Depth: depth, Min: d.below(longest + 1), Max: longest})
	case api.Over:
		return append(nodes, api.Node{Kind: kind, Depth: depth}, d.glyph(l, depth+1), d.glyph(l, depth+1))
	case api.Ring:
		least = 1
		if d.below(3) == 0 {
			nodes = append(nodes, api.Node{Kind: kind, Depth: depth})
			kind, depth, least = api.Honour, depth+1, 2
		}
	}
	nodes = append(nodes, api.Node{Kind: kind, Depth: depth})
	for range least + d.below(most-least+1) {
		nodes = d.grow(l, nodes, kind, depth+1)
	}
	return nodes
}

// kind returns a kind that a node may have at a depth within one of a kind.
func (d *dice) kind(l api.List, within, depth int) int {
	if len(l.Signs) == 0 {
		return api.Gap
	}
	if depth == api.MaxDepth {
		return api.Glyph
	}
	small := []int{api.Glyph, api.Glyph, api.Glyph, api.Gap, api.Over}
	switch within {
	case 0:
		return pick(d, append(small, api.Beside, api.Above, api.Ring, api.Honour)...)
	case api.Above:
		return pick(d, append(small, api.Beside)...)
	}
	return pick(d, append(small, api.Above)...)
}

func (d *dice) glyph(l api.List, depth int) api.Node {
	n := glyph(depth, d.below(len(l.Signs)))
	n.Turn = d.below(4)
	n.Mirror = !l.Signs[n.Sign].Even && d.below(2) == 0
	if d.below(3) == 0 {
		n.State = 1 + d.below(3)
	}
	return n
}
