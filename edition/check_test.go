package edition_test

import (
	"slices"
	"strings"
	"testing"

	"ostracon/api"
	"ostracon/edition"
)

func expectCheck(t *testing.T, what string, v api.Volume, want api.Errno) {
	t.Helper()
	if e := edition.Check(v); e != want {
		t.Errorf("Check of %s = %d, want %d", what, e, want)
	}
}

// P12.1: the list, and how many items there are.
func TestCheck(t *testing.T) {
	expectCheck(t, "the example", example(t), api.OK)
	expectCheck(t, "no items", volume(t, exampleList), api.OK)
	expectCheck(t, "no signs", volume(t, "periods 9\n", "a", "", "b", "{1-2}"), api.OK)
	expectCheck(t, "one item", many(1), api.OK)
	expectCheck(t, "40 items", many(api.MaxItems), api.OK)
	expectCheck(t, "41 items", many(api.MaxItems+1), api.ErrMany)
	expectCheck(t, "1000 items", many(1000), api.ErrMany)
	expectCheck(t, "nothing", api.Volume{}, api.ErrPeriod)
	expectCheck(t, "a wrong size", api.Volume{List: brokenList()}, api.ErrSize)
}

// P12.1: titles.
func TestCheckTitles(t *testing.T) {
	titled := func(titles ...string) api.Volume {
		v := many(len(titles))
		for i, title := range titles {
			v.Items[i].Title = title
		}
		return v
	}
	long := strings.Repeat("m", api.MaxTitle)
	for _, title := range []string{"a", "!", "~", "0", "a b", "a  b", "text", "text a", "-", "\"'`", "a\\n", long, long[:39], "a" + strings.Repeat(" ", 38) + "b"} {
		expectCheck(t, "the title "+title, titled(title), api.OK)
		expectCheck(t, "the last title "+title, titled("x", "y", title), api.OK)
	}
	for _, title := range []string{
		"", " ", "  ", " a", "a ", " a ", "a" + " b ", long + "m", strings.Repeat("m", 1000), "\x1f", "\x7f", "\x80", "a\x1fb", "a\x7fb", "\n", "a\n", "a\tb", "\ta", "\x00", "a\x00", "é", "aéb", "\xff", "\u00a0a", strings.Repeat("é", 20),
	} {
		expectCheck(t, "the title "+title, titled(title), api.ErrTitle)
		expectCheck(t, "the last title "+title, titled("x", "y", title), api.ErrTitle)
	}
	expectCheck(t, "titles that differ in their last byte", titled("item", "item ~", "item !", "Item", "ite", "itema"), api.OK)
	expectCheck(t, "a title twice", titled("a", "a"), api.ErrTitle)
	expectCheck(t, "the first title again", titled("a", "b", "c", "a"), api.ErrTitle)
	expectCheck(t, "the second title again", titled("a", "b", "c", "b", "d"), api.ErrTitle)
	expectCheck(t, "the title before again", titled("a", "b", "c", "c"), api.ErrTitle)
}

// P12.1: texts.
func TestCheckTexts(t *testing.T) {
	for _, c := range []struct {
		nodes []api.Node
		want  api.Errno
	}{
		{nil, api.OK},
		{[]api.Node{glyph(0, 0)}, api.OK},
		{slices.Repeat([]api.Node{glyph(0, 0)}, api.MaxNodes), api.OK},
		{slices.Repeat([]api.Node{glyph(0, 0)}, api.MaxNodes+1), api.ErrMany},
		{[]api.Node{glyph(0, 1)}, api.ErrSign},
		{[]api.Node{glyph(0, -1)}, api.ErrSign},
		{[]api.Node{glyph(1, 0)}, api.ErrDepth},
		{[]api.Node{{Kind: api.Gap}}, api.ErrGap},
		{[]api.Node{{}}, api.ErrNode},
		{[]api.Node{{Kind: api.Beside}, glyph(1, 0)}, api.ErrNode},
	} {
		for item := range 3 {
			v := many(3)
			v.Items[item].Text.Nodes = c.nodes
			expectCheck(t, "a text", v, c.want)
		}
	}
}

// P12.1 and R1: which error is the first one.
func TestCheckOrder(t *testing.T) {
	v := many(api.MaxItems + 1)
	v.List = brokenList()
	v.Items[0].Title = ""
	expectCheck(t, "a wrong list, and too many items", v, api.ErrSize)
	v = many(api.MaxItems + 1)
	v.Items[0] = api.Item{Title: "", Text: broken().Items[0].Text}
	expectCheck(t, "too many items, and a wrong title", v, api.ErrMany)
	v = many(3)
	v.Items[1] = api.Item{Title: "", Text: broken().Items[0].Text}
	expectCheck(t, "a wrong title and text", v, api.ErrTitle)
	v.Items[1].Title = v.Items[0].Title
	expectCheck(t, "a title twice and a wrong text", v, api.ErrTitle)
	v.Items[0].Text.Nodes = []api.Node{glyph(0, 9)}
	expectCheck(t, "a wrong text, then a title twice", v, api.ErrSign)
	v.Items[0].Text.Nodes = nil
	v.Items[1].Title = "b"
	v.Items[2].Title = ""
	expectCheck(t, "a wrong text, then a wrong title", v, api.ErrDepth)
}

// P12.1
func TestFind(t *testing.T) {
	v := volume(t, exampleList, "one", "A1", "two", "", "tw", "A1", "two 2", "A1")
	for title, want := range map[string]int{"one": 0, "two": 1, "tw": 2, "two 2": 3} {
		n, e := edition.Find(v, title)
		expect(t, "Find "+title, n, e, want)
	}
	for _, title := range []string{"", "three", "One", "one ", " one", "two 3", "\xff", strings.Repeat("x", 1000)} {
		n, e := edition.Find(v, title)
		expectError(t, "Find "+title, n, e, api.ErrNone)
	}
	n, e := edition.Find(many(40), "item 39")
	expect(t, "Find the last one", n, e, 39)
	n, e = edition.Find(volume(t, exampleList), "one")
	expectError(t, "Find in no items", n, e, api.ErrNone)
	n, e = edition.Find(broken(), "item 0")
	expectError(t, "Find in what is not valid", n, e, api.ErrDepth)
}

// P12.11
func TestSame(t *testing.T) {
	v := example(t)
	if !edition.Same(v, example(t)) || !edition.Same(api.Volume{}, api.Volume{}) || !edition.Same(broken(), broken()) {
		t.Errorf("Same of equal volumes is false")
	}
	for what, change := range map[string]func(w *api.Volume){
		"the periods":       func(w *api.Volume) { w.List.Periods = 2 },
		"a code":            func(w *api.Volume) { w.List.Signs[2].Code = "C4" },
		"a size":            func(w *api.Volume) { w.List.Signs[1].High = 2 },
		"a value":           func(w *api.Volume) { w.List.Signs[1].Values[0].Text = "nf" },
		"a sign more":       func(w *api.Volume) { w.List.Signs = append(w.List.Signs, api.Sign{}) },
		"a title":           func(w *api.Volume) { w.Items[1].Title = "Two" },
		"a node":            func(w *api.Volume) { w.Items[1].Text.Nodes[1].Max = 3 },
		"a state":           func(w *api.Volume) { w.Items[1].Text.Nodes[0].State = 0 },
		"a node less":       func(w *api.Volume) { w.Items[0].Text.Nodes = w.Items[0].Text.Nodes[:3] },
		"an item less":      func(w *api.Volume) { w.Items = w.Items[:1] },
		"no items":          func(w *api.Volume) { w.Items = nil },
		"an item more":      func(w *api.Volume) { w.Items = append(w.Items, api.Item{}) },
		"the order":         func(w *api.Volume) { slices.Reverse(w.Items) },
		"what is not valid": func(w *api.Volume) { w.Items[0].Text.Nodes[3].Sign = -5 },
	} {
		w := example(t)
		change(&w)
		if edition.Same(v, w) || edition.Same(w, v) {
			t.Errorf("Same of volumes that differ in %s is true", what)
		}
		if !edition.Same(w, w) {
			t.Errorf("Same of a volume with %s and itself is false", what)
		}
	}
}
