package edition_test

import (
	"fmt"
	"math"
	"slices"
	"testing"

	"ostracon/api"
	"ostracon/edition"
)

// scattered has signs that stand never, once and several times; the order in which
// they are read is not that of the nodes.
func scattered(t *testing.T) api.Volume {
	t.Helper()
	return volume(t, "periods 1\nA1 1x1\nB2 1x1\nC3 1x1\nD4 1x1\nE5 1x1\n",
		"first", "[A1;B2;C3]-{1-2}-A1#", "empty", "", "lost", "{1-1}", "last", `<[B2;A1!:A1\]>-E5*C3/1`)
}

// P12.4
func TestWhere(t *testing.T) {
	v := scattered(t)
	for sign, want := range [][]api.Place{
		{{Item: 0, At: 2}, {Item: 0, At: 4}, {Item: 3, At: 0}, {Item: 3, At: 1}},
		{{Item: 0, At: 0}, {Item: 3, At: 2}},
		{{Item: 0, At: 1}, {Item: 3, At: 4}},
		nil,
		{{Item: 3, At: 3}},
	} {
		l, e := edition.Where(v, sign)
		expect(t, fmt.Sprint("Where of ", sign), l, e, want)
	}
	l, e := edition.Where(example(t), 1)
	expect(t, "Where", l, e, []api.Place{{Item: 0, At: 1}, {Item: 1, At: 0}})
	for _, sign := range []int{-1, 5, 6, math.MinInt, math.MaxInt} {
		l, e := edition.Where(v, sign)
		expectError(t, "Where", l, e, api.ErrArg)
	}
	l, e = edition.Where(volume(t, "periods 1\n", "a", "{1-1}"), 0)
	expectError(t, "Where without signs", l, e, api.ErrArg)
	l, e = edition.Where(broken(), 5)
	expectError(t, "Where", l, e, api.ErrDepth)
}

// P12.4: signs with as many places come in ascending order.
func TestFrequencies(t *testing.T) {
	order, e := edition.Frequencies(scattered(t))
	expect(t, "Frequencies", order, e, []int{0, 1, 2, 4})
	order, e = edition.Frequencies(example(t))
	expect(t, "Frequencies", order, e, []int{1, 0, 2})
	list := "periods 1\nA 1x1\nB 1x1\nC 1x1\nD 1x1\nE 1x1\n"
	for text, want := range map[string][]int{
		"":                   nil,
		"{1-9}":              nil,
		"E":                  {4},
		"E-D-C-B-A":          {0, 1, 2, 3, 4},
		"E-D-C-B-A-E":        {4, 0, 1, 2, 3},
		"E-D-C-B-A-D-B-B":    {1, 3, 0, 2, 4},
		"A-E-E-D-D-D-C":      {3, 4, 0, 2},
		"D#-D=-D!-B-B\\-B/1": {1, 3},
	} {
		order, e := edition.Frequencies(volume(t, list, "a", text))
		expect(t, "Frequencies of "+text, order, e, want)
		order, e = edition.Frequencies(volume(t, list, "a", text, "b", text, "c", ""))
		expect(t, "Frequencies of twice "+text, order, e, want)
	}
	order, e = edition.Frequencies(broken())
	expectError(t, "Frequencies", order, e, api.ErrDepth)
}

// P12.7
func TestIndex(t *testing.T) {
	s, e := edition.Index(example(t))
	expect(t, "Index", s, e, "A1 1: 0.0\nB2 2: 0.1 1.0\nC3 1: 0.2\n")
	s, e = edition.Index(scattered(t))
	expect(t, "Index", s, e, "A1 4: 0.2 0.4 3.0 3.1\nB2 2: 0.0 3.2\nC3 2: 0.1 3.4\nE5 1: 3.3\n")
	s, e = edition.Index(volume(t, "periods 1\nZ 1x1\nLongcode 1x1\n", "a", "Longcode-Z-Longcode-Longcode-Longcode-Longcode-Longcode-Longcode-Longcode-Longcode-Longcode-Longcode"))
	expect(t, "Index", s, e, "Z 1: 0.1\nLongcode 11: 0.0 0.2 0.3 0.4 0.5 0.6 0.7 0.8 0.9 0.10 0.11\n")
	s, e = edition.Index(volume(t, exampleList, "a", "{1-1}"))
	expect(t, "Index of no signs", s, e, "")
	s, e = edition.Index(broken())
	expectError(t, "Index", s, e, api.ErrDepth)
	v := many(40)
	v.Items[39].Text.Nodes = slices.Repeat([]api.Node{glyph(0, 0)}, 101)
	want := "A 101:"
	for at := range 101 {
		want += fmt.Sprint(" 39.", at)
	}
	s, e = edition.Index(v)
	expect(t, "Index", s, e, want+"\n")
}

// P12.4 and P12.7
func TestPlacesAsTold(t *testing.T) {
	d := dice(40)
	for range 1500 {
		v := d.volume(4)
		var counts []int
		index := ""
		for sign, s := range v.List.Signs {
			want := placesAsTold(t, v, sign)
			l, e := edition.Where(v, sign)
			expect(t, "Where", l, e, want)
			counts = append(counts, len(want))
			if len(want) > 0 {
				index += fmt.Sprint(s.Code, " ", len(want), ":")
				for _, p := range want {
					index += fmt.Sprint(" ", p.Item, ".", p.At)
				}
				index += "\n"
			}
		}
		var order []int
		for count := 1000; count > 0; count-- {
			for sign, n := range counts {
				if n == count {
					order = append(order, sign)
				}
			}
		}
		got, e := edition.Frequencies(v)
		expect(t, "Frequencies", got, e, order)
		s, e := edition.Index(v)
		expect(t, "Index", s, e, index)
		if t.Failed() {
			t.Fatalf("%v", v)
		}
	}
}
