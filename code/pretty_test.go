package code_test

import (
	"strings"
	"testing"

	"ostracon/api"
	"ostracon/code"
	"ostracon/groups"
)

// P3.6, P3.7
func TestPretty(t *testing.T) {
	l := list(t)
	for _, c := range samples() {
		if s, e := code.Pretty(l, c.text); s != c.pretty || e != api.OK {
			t.Errorf("Pretty(%v) = %q, %d, want %q", c.text, s, e, c.pretty)
		}
		if x, e := code.ParsePretty(l, c.pretty); !groups.Same(x, c.text) || e != api.OK {
			t.Errorf("ParsePretty(%q) = %v, %d, want %v", c.pretty, x, e, c.text)
		}
	}
}

// P3.6
func TestPrettyErrors(t *testing.T) {
	l := list(t)
	for _, c := range []struct {
		l    api.List
		x    api.Text
		want api.Errno
	}{
		{brokenList(), brokenText(), api.ErrSize}, {api.List{}, text(), api.ErrPeriod}, {l, brokenText(), api.ErrDepth}, {l, text(glyph(0, 0), glyph(0, 5)), api.ErrSign}, {l, text(branch(api.Ring, 0)), api.ErrNode}, {l, text(branch(8, 0)), api.ErrNode},
	} {
		if s, e := code.Pretty(c.l, c.x); s != "" || e != c.want {
			t.Errorf("Pretty(%v) = %q, %d, want the error %d", c.x, s, e, c.want)
		}
	}
}

func expectNoTree(t *testing.T, l api.List, s string, want api.Errno) {
	t.Helper()
	if x, e := code.ParsePretty(l, s); len(x.Nodes) > 0 || e != want {
		t.Errorf("ParsePretty(%.80q) = %v, %d, want the error %d", s, x, e, want)
	}
}

// P3.7
func TestParsePrettyErrors(t *testing.T) {
	l := list(t)
	long := strings.Repeat("A", api.MaxText+1)
	expectNoTree(t, brokenList(), long, api.ErrSize)
	expectNoTree(t, api.List{}, "", api.ErrPeriod)
	expectNoTree(t, l, long, api.ErrMany)
	expectNoTree(t, l, long[1:], api.ErrForm)
	expectNoTree(t, l, strings.Repeat(" ", api.MaxText), api.ErrForm)
	expectNoTree(t, l, strings.Repeat("\n", api.MaxText+1), api.ErrMany)
	expectNoTree(t, l, strings.Repeat("A1\n", api.MaxNodes+1), api.ErrForm)
	for _, s := range []string{
		"A1", "\n", " \n", "  \n", "A1\n\n", "\nA1\n", "A1\nB2", "A1 \n", " A1\n", "  A1\n", "A1\r\n", "A1 B2\n", "A1-B2\n", "\x00", "A1\n\x00", "\tA1\n",
		"Z9\n", "a1\n", "Sign01234\n", "A1\nZ9\n", `A1\\` + "\n", "A1/0\n", "A1#/1\n", "A1/1\\\n", "E\\\n", "A1##\n",
		"{1-1\n", "{2-1}\n", "{0-0}\n", "{1-10}\n", "?\n", "{1-1}#\n",
		"beside\n", "beside\n  A1\n", "beside\nA1\nB2\n", "beside\n A1\n B2\n", "beside\n   A1\n  B2\n", "beside\n    A1\n    B2\n", "beside\n  A1\n  B2", "beside \n  A1\n  B2\n", "Beside\n  A1\n  B2\n", "besid\n  A1\n  B2\n", "besides\n  A1\n  B2\n", "beside  A1\n  B2\n", "(beside\n  A1\n  B2)\n", "gap\n", "glyph\n", "A1&B2\n",
		"over\n  A1\n  {1-1}\n", "over\n  A1\n", "A1\n  B2\n", "ring\n", "ring\n  ring\n    A1\n", "beside\n  A1\n  beside\n    B2\n    C3\n", "ring\n  honour\n    A1\n    B2\n  C3\n",
		"above\n  A1\n  beside\n    A1\n    above\n      A1\n      beside\n        A1\n        above\n          A1\n          A1\n",
	} {
		expectNoTree(t, l, s, api.ErrForm)
	}
}
