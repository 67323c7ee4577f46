package code_test

import (
	"math"
	"slices"
	"strings"
	"testing"

	"ostracon/api"
	"ostracon/code"
)

// P3.4: what both codes can say.
func TestTranslate(t *testing.T) {
	l := list(t)
	for _, c := range samples() {
		for _, from := range kinds {
			for _, to := range kinds {
				s, can := c.in(from)
				want, canToo := c.in(to)
				if !can || !canToo {
					continue
				}
				out, lost, e := code.Translate(from, to, l, s)
				if out != want || len(lost) > 0 || e != api.OK {
					t.Errorf("Translate(%d, %d, %q) = %q, %v, %d, want %q", from, to, s, out, lost, e, want)
				}
			}
		}
	}
}

// P3.4: what the tree code cannot say.
func TestTranslateLoses(t *testing.T) {
	l := list(t)
	for _, c := range []struct {
		s, want string
		lost    []int
	}{
		{"A1#", "A1", []int{0}},
		{`A1\/3!`, `A1\/3`, []int{0}},
		{"{0-9}", "?????????", []int{0}},
		{"{0-1}-{1-1}-{1-2}", "? ? ??", []int{0, 2}},
		{"A1*(B2=:C3)-<[A1!;{2-3}]>-E", "(beside A1 (above B2 C3)) (ring (honour A1 ???)) E", []int{3, 7, 8}},
	} {
		out, lost, e := code.Translate(code.Line, code.Tree, l, c.s)
		if out != c.want || !slices.Equal(lost, c.lost) || e != api.OK {
			t.Errorf("Translate of %q = %q, %v, %d, want %q, %v", c.s, out, lost, e, c.want, c.lost)
		}
		out, lost, e = code.Translate(code.Line, code.Line, l, c.s)
		if out != c.s || len(lost) > 0 || e != api.OK {
			t.Errorf("Translate of %q into its own code = %q, %v, %d", c.s, out, lost, e)
		}
	}
}

// P3.4, P3.5: which error comes first.
func TestTranslateAndSameErrors(t *testing.T) {
	l := list(t)
	long := strings.Repeat("A", api.MaxText+1)
	for _, kind := range []int{0, 3, -1, math.MinInt, math.MaxInt} {
		expectTranslate(t, kind, code.Line, brokenList(), long, api.ErrArg)
		expectTranslate(t, code.Tree, kind, brokenList(), long, api.ErrArg)
		expectTranslate(t, kind, kind, l, "A1", api.ErrArg)
		expectSame(t, kind, brokenList(), long, long, false, api.ErrArg)
		expectSame(t, kind, l, "A1", "A1", false, api.ErrArg)
	}
	for _, kind := range kinds {
		for s, want := range map[string]api.Errno{long: api.ErrMany, "A1 ": api.ErrForm, "A1-": api.ErrForm, "Z9": api.ErrSign, `E\`: api.ErrNode} {
			expectTranslate(t, kind, code.Line, l, s, want)
			expectTranslate(t, kind, code.Tree, l, s, want)
			expectTranslate(t, kind, code.Tree, brokenList(), s, api.ErrSize)
			expectSame(t, kind, l, s, "A1", false, want)
			expectSame(t, kind, l, "A1", s, false, want)
			expectSame(t, kind, l, s, "Z9*", false, want)
			expectSame(t, kind, brokenList(), s, s, false, api.ErrSize)
		}
	}
	expectSame(t, code.Line, l, "Z9", "Z9*", false, api.ErrSign)
	expectSame(t, code.Line, l, "Z9*", "Z9", false, api.ErrForm)
	expectTranslate(t, code.Tree, code.Line, l, "??????????", api.ErrGap)
}

func expectTranslate(t *testing.T, from, to int, l api.List, s string, want api.Errno) {
	t.Helper()
	out, lost, e := code.Translate(from, to, l, s)
	if out != "" || len(lost) > 0 || e != want {
		t.Errorf("Translate(%d, %d, %.80q) = %q, %v, %d, want the error %d", from, to, s, out, lost, e, want)
	}
}

func expectSame(t *testing.T, kind int, l api.List, a, b string, want bool, wantError api.Errno) {
	t.Helper()
	if is, e := code.Same(kind, l, a, b); is != want || e != wantError {
		t.Errorf("Same(%d, %.80q, %.80q) = %v, %d, want %v, %d", kind, a, b, is, e, want, wantError)
	}
}

// P3.5
func TestSame(t *testing.T) {
	l := list(t)
	for _, c := range []struct {
		kind int
		a, b string
		want bool
	}{
		{code.Line, "", "", true}, {code.Line, "", "A1", false}, {code.Line, "A1", "A1", true}, {code.Line, "A1", "B2", false},
		{code.Line, "A1*B2:C3", "A1-B2-C3", true}, {code.Line, "A1*(B2:C3)", "A1&B2:C3", true}, {code.Line, "A1-B2", "B2-A1", false}, {code.Line, "[A1;B2;C3]", "B2-C3-A1", true}, {code.Line, "[A1;B2;C3]", "A1-B2-C3", false},
		{code.Line, `A1\/1`, "A1", true}, {code.Line, "A1#", "A1", false}, {code.Line, "A1#", "A1!", false}, {code.Line, "{1-2}", "{1-3}", false}, {code.Line, "{1-2}*A1", "{1-2}-A1", true},
		{code.Line, "<A1-B2>", "A1-B2", false}, {code.Line, "<A1>-B2", "<A1-B2>", false}, {code.Line, "<[A1;B2]>", "<B2-A1>", true}, {code.Line, "<A1>-<B2>", "<A1-B2>", false},
		{code.Tree, "(beside A1 (above B2 C3))", "A1 B2 C3", true}, {code.Tree, "(honour A1 B2)", "A1 B2", false}, {code.Tree, "??", "? ?", false}, {code.Tree, "(ring A1)", "(ring A1\\)", true},
	} {
		expectSame(t, c.kind, l, c.a, c.b, c.want, api.OK)
		expectSame(t, c.kind, l, c.b, c.a, c.want, api.OK)
	}
}
