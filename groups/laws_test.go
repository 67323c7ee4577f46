package groups_test

import (
	"reflect"
	"slices"
	"testing"

	"ostracon/api"
	"ostracon/groups"
)

// rolls calls a test for many valid texts.
func rolls(t *testing.T, seed int, test func(d *dice, trees []tree, x api.Text)) {
	t.Helper()
	d := dice(seed)
	l := list(t)
	for range 1500 {
		trees := d.trees()
		x := text(trees...)
		if e := groups.Check(l, x); e != api.OK {
			t.Fatalf("Check(%v) = %d", x, e)
		}
		test(&d, trees, x)
	}
}

func mustText(t *testing.T) func(x api.Text, e api.Errno) api.Text {
	return func(x api.Text, e api.Errno) api.Text {
		t.Helper()
		if e != api.OK {
			t.Fatalf("error %d", e)
		}
		return x
	}
}

func lineOf(t *testing.T, l api.List, x api.Text) []api.Mark {
	t.Helper()
	line, e := groups.Line(l, x)
	if e != api.OK {
		t.Fatalf("Line(%v): %d", x, e)
	}
	return line
}

// P2.3, P2.5, P2.6, P2.12: what is read, and how it stands, is as the trees have it.
func TestTreesAndTexts(t *testing.T) {
	l := list(t)
	rolls(t, 1, func(d *dice, trees []tree, x api.Text) {
		expectList(t, "Line", lineOf(t, l, x), api.OK, marks(trees)...)
		found, e := groups.Rings(l, x)
		expectList(t, "Rings", found, e, spans(trees)...)
		got, e := groups.Plain(l, x)
		expectText(t, "Plain", got, e, text(plain(trees)...))
		got, e = groups.Flat(l, x)
		expectText(t, "Flat", got, e, text(flat(trees)...))
	})
}

// P2.13: the number and the kinds of marks.
func TestMarks(t *testing.T) {
	l := list(t)
	compare := func(a, b api.Mark) int {
		return slices.Compare([]int{a.Sign, a.State, a.Min, a.Max}, []int{b.Sign, b.State, b.Min, b.Max})
	}
	rolls(t, 2, func(d *dice, trees []tree, x api.Text) {
		count := 0
		for _, n := range x.Nodes {
			if n.Kind == api.Glyph || n.Kind == api.Gap {
				count++
			}
		}
		line, wall := lineOf(t, l, x), lineOf(t, l, mustText(t)(groups.Plain(l, x)))
		if len(line) != count {
			t.Fatalf("Line(%v) has %d marks", x, len(line))
		}
		slices.SortFunc(line, compare)
		slices.SortFunc(wall, compare)
		if !slices.Equal(line, wall) {
			t.Fatalf("Line(%v) and Line of Plain have other marks", x)
		}
	})
}

// P2.13: what the functions return is valid.
func TestResultsAreValid(t *testing.T) {
	l := list(t)
	rolls(t, 3, func(d *dice, trees []tree, x api.Text) {
		from := d.below(len(trees) + 1)
		to := from + d.below(len(trees)-from+1)
		for name, call := range edits(l, x, text(d.trees()...), from, to) {
			got, e := call()
			if name == "Sub" && from == len(x.Nodes) || name == "Splice" && e == api.ErrMany {
				continue
			}
			if e != api.OK || groups.Check(l, got) != api.OK {
				t.Fatalf("%s of %v, %d, %d = %v, %d", name, x, from, to, got, e)
			}
		}
		for node := range x.Nodes {
			if got, e := groups.Sub(l, x, node); e != api.OK || groups.Check(l, got) != api.OK {
				t.Fatalf("Sub(%v, %d) = %v, %d", x, node, got, e)
			}
		}
	})
}

// P2.13, P2.14: functions that are called twice.
func TestTwice(t *testing.T) {
	l := list(t)
	rolls(t, 4, func(d *dice, trees []tree, x api.Text) {
		must := mustText(t)
		if m := must(groups.Mirror(l, x)); !groups.Same(must(groups.Mirror(l, m)), x) {
			t.Fatalf("Mirror of Mirror of %v", x)
		}
		if p := must(groups.Plain(l, x)); !groups.Same(must(groups.Plain(l, p)), p) {
			t.Fatalf("Plain of Plain of %v", x)
		}
		f := must(groups.Flat(l, x))
		if !groups.Same(must(groups.Flat(l, f)), f) {
			t.Fatalf("Flat of Flat of %v", x)
		}
		long := slices.ContainsFunc(spans(trees), func(s groups.Span) bool { return s.To-s.From > api.MaxKids })
		if alike, e := groups.Alike(l, x, f); e != api.OK || alike == long {
			t.Fatalf("Alike of %v and its Flat = %v, %d", x, alike, e)
		}
	})
}

// P2.15
func TestSpliceLaws(t *testing.T) {
	l := list(t)
	rolls(t, 5, func(d *dice, trees []tree, x api.Text) {
		from := d.below(len(trees) + 1)
		to := from + d.below(len(trees)-from+1)
		found, e := groups.Groups(l, x)
		if e != api.OK || len(found) != len(trees) {
			t.Fatalf("Groups(%v) = %v, %d", x, found, e)
		}
		var own api.Text
		for _, g := range found[from:to] {
			own.Nodes = append(own.Nodes, mustText(t)(groups.Sub(l, x, g)).Nodes...)
		}
		got, e := groups.Splice(l, x, from, to, own)
		expectText(t, "Splice by its own groups", got, e, x)
		with := d.trees()
		got, e = groups.Splice(l, x, from, to, text(with...))
		if e == api.ErrMany {
			return
		}
		expectText(t, "Splice", got, e, text(slices.Concat(trees[:from], with, trees[to:])...))
		want := slices.Concat(lineOf(t, l, text(trees[:from]...)), lineOf(t, l, text(with...)), lineOf(t, l, text(trees[to:]...)))
		expectList(t, "Line of Splice", lineOf(t, l, got), api.OK, want...)
	})
}

// someList is a list that need not be valid.
func (d *dice) someList(t *testing.T) api.List {
	switch d.below(8) {
	case 0:
		return api.List{}
	case 1:
		return brokenList()
	case 2:
		return api.List{Periods: 1}
	}
	return list(t)
}

func (d *dice) someText() api.Text {
	if d.below(2) == 0 {
		return d.wild()
	}
	x := text(d.trees()...)
	if len(x.Nodes) > 0 && d.below(2) == 0 {
		n := &x.Nodes[d.below(len(x.Nodes))]
		*[]*int{&n.Kind, &n.Depth, &n.Sign, &n.Turn, &n.State, &n.Min, &n.Max}[d.below(7)] = d.number()
	}
	return x
}

// P0.1, R2 and R4: no argument makes a function panic, the results depend on
// the arguments alone, no argument is changed, and with an error every other
// result is its zero value.
func TestAnyArguments(t *testing.T) {
	d := dice(6)
	for range 10000 {
		l, x, y, from, to := d.someList(t), d.someText(), d.someText(), d.number(), d.number()
		x2, y2 := cloneText(x), cloneText(y)
		first := calls(l, x, y, from, to)
		if !groups.Same(x, x2) || !groups.Same(y, y2) {
			t.Fatalf("calls with %v, %v, %d, %d change a text", x2, y2, from, to)
		}
		if second := calls(l, x2, y2, from, to); !reflect.DeepEqual(first, second) {
			t.Fatalf("calls with %v, %v, %d, %d give %v, then %v", x, y, from, to, first, second)
		}
		for name, results := range first {
			if len(results) < 2 || results[1] == api.OK {
				continue
			}
			if r := results[0]; r != nil && !reflect.ValueOf(r).IsZero() {
				t.Fatalf("%s with %v, %v, %d, %d gives %v", name, x, y, from, to, results)
			}
		}
	}
}

// R3: a nil list and an empty one are the same.
func TestNilAndEmpty(t *testing.T) {
	for _, l := range []api.List{list(t), {Periods: 1}} {
		none := calls(l, api.Text{}, api.Text{}, 0, 0)
		empty := calls(l, api.Text{Nodes: []api.Node{}}, api.Text{Nodes: make([]api.Node, 0, 3)}, 0, 0)
		if !reflect.DeepEqual(none, empty) {
			t.Errorf("calls with nil give %v, with an empty list %v", none, empty)
		}
	}
}

// roomy is an equal text behind whose nodes there is memory of somebody else.
func roomy(x api.Text) api.Text {
	const room = 300
	return api.Text{Nodes: append(cloneText(x).Nodes, make([]api.Node, room)...)[:len(x.Nodes)]}
}

// untouched reports whether nobody has written behind the nodes of a roomy text.
func untouched(x api.Text) bool {
	for _, n := range x.Nodes[len(x.Nodes):cap(x.Nodes)] {
		if n != (api.Node{}) {
			return false
		}
	}
	return true
}

// R4: results share no memory with arguments, and nothing behind an argument is changed.
func TestNewMemory(t *testing.T) {
	l := list(t)
	rolls(t, 7, func(d *dice, trees []tree, x api.Text) {
		with := text(d.trees()...)
		from := d.below(len(trees) + 1)
		to := from + d.below(len(trees)-from+1)
		a, b := roomy(x), roomy(with)
		for name, call := range edits(l, a, b, from, to) {
			got, _ := call()
			all := got.Nodes[:cap(got.Nodes)]
			for i := range all {
				all[i] = api.Node{Kind: -1}
			}
			if !groups.Same(a, x) || !groups.Same(b, with) || !untouched(a) || !untouched(b) {
				t.Fatalf("the result of %s of %v, %d, %d, %v shares memory with an argument", name, x, from, to, with)
			}
		}
	})
}
