package code_test

import (
	"math"
	"slices"
	"strings"
	"testing"

	"ostracon/api"
	"ostracon/code"
)

// P3.1, P3.8
func TestWrite(t *testing.T) {
	l := list(t)
	for _, c := range samples() {
		for _, kind := range kinds {
			want, can := c.in(kind)
			s, e := code.Write(kind, l, c.text)
			n, sizeError := code.Size(kind, l, c.text)
			if !can {
				expectError(t, "Write of "+c.line, e, api.ErrCannot)
				expectError(t, "Size of "+c.line, sizeError, api.ErrCannot)
				want = ""
			} else {
				expectError(t, "Write of "+c.line, e, api.OK)
				expectError(t, "Size of "+c.line, sizeError, api.OK)
			}
			if s != want || n != len(want) {
				t.Errorf("Write(%d) = %q with Size %d, want %q", kind, s, n, want)
			}
		}
	}
}

// P3.1, P3.2, P3.8: which error comes first.
func TestWriteErrors(t *testing.T) {
	l := list(t)
	damaged := text(state(0, 0, api.Damaged))
	type result struct{ write, lacks, size api.Errno }
	for _, c := range []struct {
		kind int
		l    api.List
		x    api.Text
		want result
	}{
		{0, brokenList(), brokenText(), result{api.ErrArg, api.ErrArg, api.ErrArg}},
		{3, l, damaged, result{api.ErrArg, api.ErrArg, api.ErrArg}},
		{-1, l, text(), result{api.ErrArg, api.ErrArg, api.ErrArg}},
		{math.MinInt, l, text(), result{api.ErrArg, api.ErrArg, api.ErrArg}},
		{math.MaxInt, l, text(), result{api.ErrArg, api.ErrArg, api.ErrArg}},
		{code.Line, brokenList(), brokenText(), result{api.ErrSize, api.ErrSize, api.ErrSize}},
		{code.Tree, brokenList(), damaged, result{api.ErrSize, api.ErrSize, api.ErrSize}},
		{code.Line, api.List{}, text(), result{api.ErrPeriod, api.ErrPeriod, api.ErrPeriod}},
		{code.Line, l, brokenText(), result{api.ErrDepth, api.ErrDepth, api.ErrDepth}},
		{code.Tree, l, text(state(0, 0, api.Damaged), glyph(0, 5)), result{api.ErrSign, api.ErrSign, api.ErrSign}},
		{code.Tree, l, text(gap(0, 0, 1), gap(0, 2, 1)), result{api.ErrGap, api.ErrGap, api.ErrGap}},
		{code.Tree, l, damaged, result{api.ErrCannot, api.OK, api.ErrCannot}},
		{code.Tree, l, text(glyph(0, 0), gap(0, 0, 9)), result{api.ErrCannot, api.OK, api.ErrCannot}},
		{code.Line, l, damaged, result{api.OK, api.OK, api.OK}},
	} {
		s, writeError := code.Write(c.kind, c.l, c.x)
		found, lacksError := code.Lacks(c.kind, c.l, c.x)
		n, sizeError := code.Size(c.kind, c.l, c.x)
		if got := (result{writeError, lacksError, sizeError}); got != c.want {
			t.Errorf("errors of %d, %v: %v, want %v", c.kind, c.x, got, c.want)
		}
		if writeError != api.OK && (s != "" || n != 0) || lacksError != api.OK && len(found) > 0 {
			t.Errorf("results with errors of %d, %v: %q, %v, %d", c.kind, c.x, s, found, n)
		}
	}
}

// P3.2
func TestLacks(t *testing.T) {
	l := list(t)
	x := text(
		branch(api.Ring, 0), branch(api.Honour, 1), state(2, 0, api.Damaged), turned(2, 1, 3, true), gap(2, 0, 1),
		gap(0, 4, 4), state(0, 4, api.Hatched),
		branch(api.Over, 0), glyph(1, 0), state(1, 1, api.Usurped),
		gap(0, 8, 9), gap(0, 9, 9),
	)
	for _, c := range []struct {
		kind int
		x    api.Text
		want []int
	}{
		{code.Line, x, nil},
		{code.Tree, x, []int{2, 4, 6, 9, 10}},
		{code.Tree, whole(x), nil},
		{code.Line, text(), nil},
		{code.Tree, text(), nil},
	} {
		found, e := code.Lacks(c.kind, l, c.x)
		if e != api.OK || !slices.Equal(found, c.want) {
			t.Errorf("Lacks(%d, %v) = %v, %d, want %v", c.kind, c.x, found, e, c.want)
		}
	}
}

// P3.10: the longest texts.
func TestWriteLongest(t *testing.T) {
	l := list(t)
	n := api.Node{Kind: api.Glyph, Sign: 3, Turn: 3, Mirror: true, State: api.Usurped}
	x := text(slices.Repeat([]api.Node{n}, api.MaxNodes)...)
	want := strings.TrimSuffix(strings.Repeat(`Sign0123\/3!-`, api.MaxNodes), "-")
	s := mustWrite(t, code.Line, l, x)
	if s != want || len(s) > api.MaxText {
		t.Errorf("Write of the longest text = %q", s)
	}
	pretty, e := code.Pretty(l, x)
	if e != api.OK || pretty != strings.ReplaceAll(want, "-", "\n")+"\n" {
		t.Errorf("Pretty of the longest text = %q, %d", pretty, e)
	}
	x = text(slices.Repeat([]api.Node{gap(0, 9, 9)}, api.MaxNodes)...)
	if s := mustWrite(t, code.Tree, l, x); len(s) != 10*api.MaxNodes-1 {
		t.Errorf("Write of the longest gaps = %q", s)
	}
}
