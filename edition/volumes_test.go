package edition_test

import (
	"fmt"
	"math"
	"slices"
	"strings"
	"testing"

	"ostracon/api"
	"ostracon/edition"
)

// P12.9
func TestSelect(t *testing.T) {
	v := volume(t, exampleList, "a", "A1", "b", "", "c", "B2-C3")
	for _, c := range []struct{ items, want []int }{
		{nil, nil}, {[]int{0}, []int{0}}, {[]int{2}, []int{2}}, {[]int{2, 0}, []int{2, 0}}, {[]int{0, 1, 2}, []int{0, 1, 2}}, {[]int{1, 2, 0}, []int{1, 2, 0}},
	} {
		want := api.Volume{List: v.List}
		for _, i := range c.want {
			want.Items = append(want.Items, v.Items[i])
		}
		got, e := edition.Select(v, c.items)
		expect(t, fmt.Sprint("Select of ", c.items), got, e, want)
	}
	got, e := edition.Select(volume(t, exampleList), nil)
	expect(t, "Select of nothing", got, e, volume(t, exampleList))
	for _, items := range [][]int{{3}, {-1}, {0, 3}, {0, 0}, {1, 2, 1}, {0, 1, 2, 0}, {0, 1, 2, 3}, {math.MaxInt}, {math.MinInt}, {2, 2}} {
		got, e := edition.Select(v, items)
		expectError(t, fmt.Sprint("Select of ", items), got, e, api.ErrArg)
	}
	got, e = edition.Select(broken(), []int{5})
	expectError(t, "Select", got, e, api.ErrDepth)
}

// P12.9
func TestJoin(t *testing.T) {
	for _, c := range []struct{ a, b, want api.Volume }{
		{volume(t, "periods 1\n"), volume(t, "periods 3\n"), volume(t, "periods 3\n")},
		{example(t), volume(t, "periods 1\n"), example(t)},
		{volume(t, "periods 1\n"), example(t), example(t)},
		{
			example(t), volume(t, "periods 2\nD4 1x1\nB2 6x3 s:a@2-2\n", "three", "B2-D4"),
			volume(t, "periods 2\nA1 12x12 s:nfr@1-1\nB2 6x3 s:a@2-2 s:nfr@1-1\nC3 4x4\nD4 1x1\n", "one", "A1-B2:C3", "two", "B2#-{1-2}", "three", "B2-D4"),
		},
		{
			volume(t, "periods 1\nC 1x1\nA 1x1 =\n", "x", "C-A", "y", "{1-1}"),
			volume(t, "periods 1\nD 2x2\nA 1x1 =\nB 1x1\nC 1x1\n", "X", `<[A;B\:C/1&D]>-{0-2}-D!`, "z", "", "u", "C-B-A-D"),
			volume(t, "periods 1\nC 1x1\nA 1x1 =\nD 2x2\nB 1x1\n", "x", "C-A", "y", "{1-1}", "X", `<[A;B\:C/1&D]>-{0-2}-D!`, "z", "", "u", "C-B-A-D"),
		},
	} {
		got, e := edition.Join(c.a, c.b)
		expect(t, "Join", got, e, c.want)
	}
	left, right := many(20), many(20)
	for i := range right.Items {
		right.Items[i].Title += "x"
	}
	got, e := edition.Join(left, right)
	expect(t, "Join of 20 and 20 items", got, e, api.Volume{List: left.List, Items: slices.Concat(left.Items, right.Items)})
	got, e = edition.Join(many(40), many(0))
	expect(t, "Join of 40 and no items", got, e, many(40))
	got, e = edition.Join(many(0), many(40))
	expect(t, "Join of no and 40 items", got, e, many(40))
}

// P12.9: errors, in their order.
func TestJoinErrors(t *testing.T) {
	sized := many(40)
	sized.List.Signs[0].Wide = 2
	noTitle := many(1)
	noTitle.Items[0].Title = ""
	other := many(1)
	other.Items[0].Title = "other"
	// Both lists together have too many signs, or too many values of a sign.
	full, more := volume(t, manySigns("A", 200), "a", ""), volume(t, manySigns("B", 1), "b", "")
	half, rest := volume(t, "periods 1\nA 1x1"+sounds("abcdefghijkl")+"\n", "a", ""), volume(t, "periods 1\nA 1x1"+sounds("m")+"\n", "a", "")
	for _, c := range []struct {
		what string
		a, b api.Volume
		want api.Errno
	}{
		{"the first volume", broken(), noTitle, api.ErrDepth},
		{"the second volume", many(40), noTitle, api.ErrTitle},
		{"the second volume, with the list of another size", sized, broken(), api.ErrDepth},
		{"both volumes", noTitle, broken(), api.ErrTitle},
		{"lists that do not fit, and too many items", many(40), sized, api.ErrSize},
		{"lists that do not fit, and equal titles", volume(t, "periods 1\nA 1x1\n", "a", ""), volume(t, "periods 1\nA 1x2\n", "a", ""), api.ErrSize},
		{"too many signs", full, more, api.ErrMany},
		{"too many values, and equal titles", half, rest, api.ErrMany},
		{"41 items", many(40), other, api.ErrMany},
		{"41 items of which the first one is another", other, many(40), api.ErrMany},
		{"41 items, and equal titles", many(40), many(1), api.ErrMany},
		{"80 items", many(40), many(40), api.ErrMany},
		{"equal titles", many(1), many(1), api.ErrTitle},
		{"the first and the last title", many(3), volume(t, "periods 1\n", "a", "", "item 0", ""), api.ErrTitle},
		{"the last and the first title", many(3), volume(t, "periods 1\n", "item 2", "", "b", ""), api.ErrTitle},
		{"40 items of which two have the same title", many(20), many(20), api.ErrTitle},
	} {
		got, e := edition.Join(c.a, c.b)
		expectError(t, "Join with "+c.what, got, e, c.want)
	}
}

// manySigns is a list with n signs.
func manySigns(prefix string, n int) string {
	list := "periods 1\n"
	for i := range n {
		list += fmt.Sprintf("%s%d 1x1\n", prefix, i)
	}
	return list
}

// sounds are values of the sounds of letters.
func sounds(letters string) string {
	values := ""
	for _, letter := range strings.Split(letters, "") {
		values += " s:" + letter + "@1-1"
	}
	return values
}

// P12.10
func TestRenumber(t *testing.T) {
	const text = `<[A;B\:C/1&D]>-{0-2}-D!`
	v := volume(t, "periods 2\nA 1x1\nB 1x2 w:b@1-2 s:a@2-2\nC 2x1 =\nD 1x1 c:a@1-1\n", "x", text, "y", "", "z", "D-C-B-A")
	for _, c := range []struct {
		order []int
		list  string
	}{
		{[]int{0, 1, 2, 3}, "periods 2\nA 1x1\nB 1x2 w:b@1-2 s:a@2-2\nC 2x1 =\nD 1x1 c:a@1-1\n"},
		{[]int{3, 2, 1, 0}, "periods 2\nD 1x1 c:a@1-1\nC 2x1 =\nB 1x2 w:b@1-2 s:a@2-2\nA 1x1\n"},
		{[]int{1, 3, 0, 2}, "periods 2\nB 1x2 w:b@1-2 s:a@2-2\nD 1x1 c:a@1-1\nA 1x1\nC 2x1 =\n"},
	} {
		got, e := edition.Renumber(v, c.order)
		expect(t, fmt.Sprint("Renumber by ", c.order), got, e, volume(t, c.list, "x", text, "y", "", "z", "D-C-B-A"))
	}
	got, e := edition.Renumber(v, []int{1, 3, 0, 2})
	if e != api.OK || !slices.Equal(got.Items[2].Text.Nodes, []api.Node{glyph(0, 1), glyph(0, 3), glyph(0, 0), glyph(0, 2)}) {
		t.Errorf("Renumber = %v, %d", got, e)
	}
	empty := volume(t, "periods 1\n", "a", "{1-1}")
	got, e = edition.Renumber(empty, nil)
	expect(t, "Renumber of no signs", got, e, empty)
	for _, order := range [][]int{nil, {0}, {0, 1, 2}, {0, 1, 2, 3, 4}, {0, 1, 2, 4}, {0, 1, 2, -1}, {0, 1, 2, 2}, {0, 0, 2, 3}, {3, 2, 1, 3}, {0, 1, 2, 3, 3}, {1, 2, 3, 4}, {0, 1, 2, math.MaxInt}, {math.MinInt, 1, 2, 3}} {
		got, e := edition.Renumber(v, order)
		expectError(t, fmt.Sprint("Renumber by ", order), got, e, api.ErrArg)
	}
	got, e = edition.Renumber(empty, []int{0})
	expectError(t, "Renumber of no signs", got, e, api.ErrArg)
	got, e = edition.Renumber(broken(), nil)
	expectError(t, "Renumber", got, e, api.ErrDepth)
}
