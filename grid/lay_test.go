package grid_test

import (
	"slices"
	"testing"

	"ostracon/api"
	"ostracon/grid"
)

type places = [][4]api.Frac

func expectPlaces(t *testing.T, s string, p api.Page, want places) {
	t.Helper()
	boxes := mustLay(t, line(t, s), p)
	var got places
	for _, b := range boxes {
		got = append(got, place(b))
	}
	if !slices.Equal(got, want) {
		t.Errorf("Lay(%q, %v) stands at %v, want %v", s, p, got, want)
	}
}

// P4.5: where leaves and rings stand in rows from the left.
func TestLayInRows(t *testing.T) {
	for s, want := range map[string]places{
		"":      nil,
		"A1":    {{n(0), n(0), n(48), n(48)}},
		"B2":    {{n(0), n(18), n(24), n(12)}},
		"B2/1":  {{n(0), n(12), n(12), n(24)}},
		"D4":    {{n(0), n(22), n(4), n(4)}},
		"{0-1}": {{n(0), n(12), n(12), n(24)}},
		"{2-5}": {{n(0), f(72, 5), n(48), f(96, 5)}},
		"A1*B2": {{n(0), f(264, 23), f(576, 23), f(576, 23)}, {f(816, 23), f(480, 23), f(288, 23), f(144, 23)}},
		"B2:C3": {{n(0), n(0), f(144, 7), f(72, 7)}, {f(36, 7), f(192, 7), f(72, 7), f(144, 7)}},
		"B2-A1": {{n(0), n(18), n(24), n(12)}, {n(48), n(0), n(48), n(48)}},
		// 144/7 is rounded up to 21.
		"B2:C3-D4": {{n(0), n(0), f(144, 7), f(72, 7)}, {f(36, 7), f(192, 7), f(72, 7), f(144, 7)}, {n(45), n(22), n(4), n(4)}},
		"A1&B2":    {{n(0), n(0), n(48), n(48)}, {n(12), n(12), n(24), n(24)}},
		"B2&A1":    {{n(0), n(18), n(24), n(12)}, {n(6), n(21), n(12), n(6)}},
		"D4&A1":    {{n(0), n(22), n(4), n(4)}, {n(1), n(23), n(2), n(2)}},
		"<B2>":     {{n(0), n(6), n(48), n(36)}, {n(12), n(18), n(24), n(12)}},
		"<B2-C3>":  {{n(0), n(0), n(80), n(48)}, {n(12), n(18), n(24), n(12)}, {n(56), n(12), n(12), n(24)}},
		"[A1;B2]":  {{n(0), f(264, 23), f(576, 23), f(576, 23)}, {f(816, 23), f(480, 23), f(288, 23), f(144, 23)}},
		// An honour in a ring is gone.
		"<[B2;C3]>": {{n(0), n(0), n(80), n(48)}, {n(12), n(18), n(24), n(12)}, {n(56), n(12), n(12), n(24)}},
		// Natural sizes: the Above is 24 by 52, all is 92 by 52.
		"A1*(B2:C3)": {
			{n(0), f(264, 23), f(576, 23), f(576, 23)},
			{f(816, 23), f(240, 23), f(288, 23), f(144, 23)},
			{f(888, 23), f(576, 23), f(144, 23), f(288, 23)},
		},
		// The ring is 140 long, but need not be made smaller for it.
		"<E5-E5>-D4": {{n(0), n(10), n(140), n(28)}, {n(12), n(22), n(48), n(4)}, {n(80), n(22), n(48), n(4)}, {n(164), n(22), n(4), n(4)}},
	} {
		expectPlaces(t, s, page(1), want)
	}
}

// P4.5: where they stand in the other ways.
func TestLayInOtherWays(t *testing.T) {
	for _, c := range []struct {
		text string
		way  int
		want places
	}{
		{"A1", 2, places{{n(-48), n(0), n(48), n(48)}}},
		{"A1", 3, places{{n(0), n(0), n(48), n(48)}}},
		{"A1", 4, places{{n(-48), n(0), n(48), n(48)}}},
		{"B2-A1", 2, places{{n(-24), n(18), n(24), n(12)}, {n(-96), n(0), n(48), n(48)}}},
		{"B2-A1", 3, places{{n(12), n(0), n(24), n(12)}, {n(0), n(36), n(48), n(48)}}},
		{"B2-A1", 4, places{{n(-36), n(0), n(24), n(12)}, {n(-48), n(36), n(48), n(48)}}},
		{"A1*B2", 2, places{{f(-576, 23), f(264, 23), f(576, 23), f(576, 23)}, {n(-48), f(480, 23), f(288, 23), f(144, 23)}}},
		{"A1*B2", 3, places{{n(0), n(0), f(576, 23), f(576, 23)}, {f(816, 23), f(216, 23), f(288, 23), f(144, 23)}}},
		{"B2:C3", 2, places{{f(-144, 7), n(0), f(144, 7), f(72, 7)}, {f(-108, 7), f(192, 7), f(72, 7), f(144, 7)}}},
		{"B2:C3", 3, places{{f(96, 7), n(0), f(144, 7), f(72, 7)}, {f(132, 7), f(192, 7), f(72, 7), f(144, 7)}}},
		{"B2:C3", 4, places{{f(-240, 7), n(0), f(144, 7), f(72, 7)}, {f(-204, 7), f(192, 7), f(72, 7), f(144, 7)}}},
		{"<B2-C3>-D4", 2, places{{n(-80), n(0), n(80), n(48)}, {n(-36), n(18), n(24), n(12)}, {n(-68), n(12), n(12), n(24)}, {n(-108), n(22), n(4), n(4)}}},
		{"<B2-C3>-D4", 3, places{{n(0), n(0), n(48), n(80)}, {n(12), n(12), n(24), n(12)}, {n(18), n(44), n(12), n(24)}, {n(22), n(104), n(4), n(4)}}},
		{"<[B2;C3]>-D4", 3, places{{n(0), n(0), n(48), n(80)}, {n(12), n(12), n(24), n(12)}, {n(18), n(44), n(12), n(24)}, {n(22), n(104), n(4), n(4)}}},
		{"<B2-C3>-D4", 4, places{{n(-48), n(0), n(48), n(80)}, {n(-36), n(12), n(24), n(12)}, {n(-30), n(44), n(12), n(24)}, {n(-26), n(104), n(4), n(4)}}},
	} {
		expectPlaces(t, c.text, page(c.way), c.want)
	}
}

// P4.5: where further lines stand.
func TestLayLines(t *testing.T) {
	for way, want := range map[int]places{
		1: {{n(0), n(0), n(48), n(48)}, {n(0), n(90), n(24), n(12)}, {n(48), n(94), n(4), n(4)}, {n(0), n(144), n(48), n(48)}},
		2: {{n(-48), n(0), n(48), n(48)}, {n(-24), n(90), n(24), n(12)}, {n(-52), n(94), n(4), n(4)}, {n(-48), n(144), n(48), n(48)}},
		3: {{n(0), n(0), n(48), n(48)}, {n(84), n(0), n(24), n(12)}, {n(94), n(36), n(4), n(4)}, {n(144), n(0), n(48), n(48)}},
		4: {{n(-48), n(0), n(48), n(48)}, {n(-108), n(0), n(24), n(12)}, {n(-98), n(36), n(4), n(4)}, {n(-192), n(0), n(48), n(48)}},
	} {
		expectPlaces(t, "A1-B2-D4-A1", api.Page{Way: way, Length: 60}, want)
	}
}

// P4.5: what a box says of its node.
func TestLayFields(t *testing.T) {
	want := []api.Box{
		{Kind: api.Ring, X: n(0), Y: n(0), W: n(160), H: n(48)},
		{Kind: api.Glyph, Sign: 1, Turn: 1, Mirror: true, State: api.Damaged, X: n(12), Y: n(12), W: n(12), H: n(24)},
		{Kind: api.Gap, Min: 2, Max: 5, X: n(44), Y: n(12), W: n(60), H: n(24)},
		{Kind: api.Glyph, Sign: 2, Turn: 3, State: api.Usurped, X: n(124), Y: n(18), W: n(24), H: n(12)},
		{Kind: api.Glyph, Sign: 0, State: api.Hatched, X: n(130), Y: n(21), W: n(12), H: n(6)},
	}
	got, e := grid.Lay(list(t), line(t, `<B2\/1#-{2-5}-C3/3!&A1=>`), page(1))
	if e != api.OK || !slices.Equal(got, want) {
		t.Errorf("Lay = %v, %d, want %v", got, e, want)
	}
}
