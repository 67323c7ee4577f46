package signs_test

import (
	"slices"
	"strings"
	"testing"

	"ostracon/api"
	"ostracon/signs"
)

// P1.2
func TestFind(t *testing.T) {
	l := parse(t, example)
	for i, code := range []string{"A1", "B2", "C3"} {
		if n, e := signs.Find(l, code); n != i || e != api.OK {
			t.Errorf("Find %s = %d, %d", code, n, e)
		}
	}
	for _, code := range []string{"", "A", "a1", "A11", "C4", "A1 ", "\xff"} {
		if n, e := signs.Find(l, code); n != 0 || e != api.ErrNone {
			t.Errorf("Find %q = %d, %d", code, n, e)
		}
	}
	if n, e := signs.Find(broken(), "a"); n != 0 || e != api.ErrCode {
		t.Errorf("Find in a list that is not valid = %d, %d", n, e)
	}
	if n, e := signs.Find(many("S", 200), "S199"); n != 199 || e != api.OK {
		t.Errorf("Find the last one = %d, %d", n, e)
	}
}

// P1.3
func TestValues(t *testing.T) {
	l := parse(t, "periods 4\nA1 1x1\nB2 1x1 w:b@2-3 s:a@1-4 s:b@4-4 c:z@1-2\n")
	b, a, late, z := value(2, "b", 2, 3), value(1, "a", 1, 4), value(1, "b", 4, 4), value(3, "z", 1, 2)
	for i, want := range [][]api.Value{{a, z}, {b, a, z}, {b, a}, {a, late}} {
		if v, e := signs.Values(l, 1, i+1); !slices.Equal(v, want) || e != api.OK {
			t.Errorf("Values in %d = %v, %d", i+1, v, e)
		}
	}
	if v, e := signs.Values(l, 0, 1); len(v) != 0 || e != api.OK {
		t.Errorf("Values of a sign without any = %v, %d", v, e)
	}
	for _, c := range []struct {
		l            api.List
		sign, period int
		want         api.Errno
	}{
		{l, -1, 1, api.ErrArg}, {l, 2, 1, api.ErrArg}, {l, -1 << 63, 1, api.ErrArg}, {l, 1<<63 - 1, 1, api.ErrArg},
		{l, 1, 0, api.ErrPeriod}, {l, 1, 5, api.ErrPeriod}, {l, 1, -1, api.ErrPeriod},
		{l, 2, 5, api.ErrArg}, {broken(), 2, 5, api.ErrCode}, {api.List{Periods: 1}, 0, 1, api.ErrArg},
	} {
		if v, e := signs.Values(c.l, c.sign, c.period); len(v) != 0 || e != c.want {
			t.Errorf("Values(%d, %d) = %v, %d, want %d", c.sign, c.period, v, e, c.want)
		}
	}
}

// P1.4
func TestBearers(t *testing.T) {
	l := parse(t, "periods 3\nA1 1x1 w:a@1-3\nB2 1x1 s:a@2-3 s:a@1-1\nC3 1x1 s:b@1-3 s:a@3-3\nD4 1x1 s:ab@1-3 c:a@2-2\n")
	for _, c := range []struct {
		kind   int
		text   string
		period int
		want   []int
	}{
		{1, "a", 1, []int{1}}, {1, "a", 2, []int{1}}, {1, "a", 3, []int{1, 2}}, {2, "a", 2, []int{0}}, {3, "a", 2, []int{3}}, {3, "a", 3, nil},
		{1, "ab", 3, []int{3}}, {1, "A", 3, nil}, {1, "", 3, nil}, {1, "a b", 3, nil}, {3, "\xff", 1, nil}, {1, strings.Repeat("a", 100), 1, nil},
	} {
		if b, e := signs.Bearers(l, c.kind, c.text, c.period); !slices.Equal(b, c.want) || e != api.OK {
			t.Errorf("Bearers(%d, %q, %d) = %v, %d, want %v", c.kind, c.text, c.period, b, e, c.want)
		}
	}
	for _, c := range []struct {
		l            api.List
		kind, period int
		want         api.Errno
	}{
		{l, 0, 1, api.ErrArg}, {l, 4, 1, api.ErrArg}, {l, -1, 1, api.ErrArg}, {l, 1, 0, api.ErrPeriod}, {l, 3, 4, api.ErrPeriod}, {l, 1, -1 << 63, api.ErrPeriod},
		{l, 0, 0, api.ErrArg}, {broken(), 0, 0, api.ErrCode},
	} {
		if b, e := signs.Bearers(c.l, c.kind, "a", c.period); len(b) != 0 || e != c.want {
			t.Errorf("Bearers(%d, %d) = %v, %d, want %d", c.kind, c.period, b, e, c.want)
		}
	}
}

// bearing is a list in which n signs have the sound nfr, behind one that has not.
func bearing(n int) api.List {
	l := many("S", n+1)
	for i := range n {
		l.Signs[i+1].Values = []api.Value{{Kind: api.Sound, Text: "nfr", From: 1, To: 1}}
	}
	return l
}

// P1.5
func TestName(t *testing.T) {
	l := bearing(199)
	for sign, want := range map[int]string{1: "nfr", 2: "nfr2", 9: "nfr9", 10: "nfr10", 100: "nfr100", 199: "nfr199"} {
		if n, e := signs.Name(l, sign, "nfr", 1); n != want || e != api.OK {
			t.Errorf("Name of %d = %q, %d, want %q", sign, n, e, want)
		}
	}
	x := parse(t, example)
	for _, c := range []struct {
		l       api.List
		sign    int
		text    string
		period  int
		want    string
		wantErr api.Errno
		what    string
	}{
		{x, 0, "nfr", 1, "nfr", api.OK, "the first bearer"},
		{x, 1, "nfr", 2, "nfr2", api.OK, "the second bearer"},
		{x, 1, "nfr", 1, "", api.ErrNone, "a sound out of use"},
		{x, 2, "man", 1, "", api.ErrNone, "a class"},
		{x, 2, "nfr", 2, "", api.ErrNone, "another sign's sound"},
		{x, 0, "", 1, "", api.ErrNone, "no text"},
		{x, 0, "nfr2", 1, "", api.ErrNone, "a name for a text"},
		{x, -1, "nfr", 1, "", api.ErrArg, "a sign below the first"},
		{x, 3, "nfr", 1, "", api.ErrArg, "a sign behind the last"},
		{x, 0, "nfr", 0, "", api.ErrPeriod, "the period 0"},
		{x, 0, "nfr", 3, "", api.ErrPeriod, "a period behind the last"},
		{x, 3, "nfr", 3, "", api.ErrArg, "sign before period"},
		{x, 1, "x", 3, "", api.ErrPeriod, "period before text"},
		{broken(), 3, "nfr", 3, "", api.ErrCode, "list before sign"},
		{parse(t, "periods 1\nA1 1x1 w:a@1-1\nB2 1x1 s:a@1-1\n"), 1, "a", 1, "a", api.OK, "a word is no sound"},
	} {
		if n, e := signs.Name(c.l, c.sign, c.text, c.period); n != c.want || e != c.wantErr {
			t.Errorf("Name of %s = %q, %d, want %q, %d", c.what, n, e, c.want, c.wantErr)
		}
	}
}

// P1.6
func TestParseName(t *testing.T) {
	l := bearing(199)
	for name, sign := range map[string]int{"nfr": 1, "nfr2": 2, "nfr9": 9, "nfr10": 10, "nfr20": 20, "nfr199": 199} {
		if s, text, e := signs.ParseName(l, name, 1); s != sign || text != "nfr" || e != api.OK {
			t.Errorf("ParseName(%q) = %d, %q, %d", name, s, text, e)
		}
	}
	for name, want := range map[string]api.Errno{
		"nfr200": api.ErrNone, "nfr201": api.ErrNone, "nfr1000": api.ErrNone, "nf": api.ErrNone, "NFR": api.ErrNone, "nfrr2": api.ErrNone, "abcdefgh9": api.ErrNone,
		"nfr18446744073709551618": api.ErrNone, "nfr" + strings.Repeat("9", 5000): api.ErrNone,
		"": api.ErrForm, "2": api.ErrForm, "nfr0": api.ErrForm, "nfr1": api.ErrForm, "nfr02": api.ErrForm, "nfr002": api.ErrForm, "nfr+2": api.ErrForm, "nfr-2": api.ErrForm, "nfr 2": api.ErrForm,
		"nfr2 ": api.ErrForm, " nfr": api.ErrForm, "nfr2x": api.ErrForm, "nfr2/": api.ErrForm, "nfr2:": api.ErrForm, "nfr" + strings.Repeat("9", 5000) + "x": api.ErrForm, "abcdefghi": api.ErrForm, "abcdefghi2": api.ErrForm,
		"n_": api.ErrForm, "n\x00": api.ErrForm, "né": api.ErrForm, "nfr\u0662": api.ErrForm, "n2f": api.ErrForm, "nfr2\n": api.ErrForm,
	} {
		if s, text, e := signs.ParseName(l, name, 1); s != 0 || text != "" || e != want {
			t.Errorf("ParseName(%q) = %d, %q, %d, want %d", name, s, text, e, want)
		}
	}
	all := bearing(199)
	all.Signs[0].Values = all.Signs[1].Values
	for name, want := range map[string]api.Errno{"nfr200": api.OK, "nfr201": api.ErrNone, "nfr202": api.ErrNone, "nfr2000": api.ErrNone} {
		if s, _, e := signs.ParseName(all, name, 1); e != want || e == api.OK && s != 199 {
			t.Errorf("ParseName(%q) where all signs are bearers = %d, %d", name, s, e)
		}
	}
	x := parse(t, example)
	if s, text, e := signs.ParseName(x, "nfr2", 2); s != 1 || text != "nfr" || e != api.OK {
		t.Errorf("ParseName in period 2 = %d, %q, %d", s, text, e)
	}
	if _, _, e := signs.ParseName(x, "nfr2", 1); e != api.ErrNone {
		t.Errorf("ParseName in period 1: %d", e)
	}
	if _, _, e := signs.ParseName(x, "man", 1); e != api.ErrNone {
		t.Errorf("ParseName of a class: %d", e)
	}
	for _, p := range []int{0, 3, -1} {
		if s, text, e := signs.ParseName(x, "", p); s != 0 || text != "" || e != api.ErrPeriod {
			t.Errorf("ParseName in period %d = %d, %q, %d", p, s, text, e)
		}
	}
	if _, _, e := signs.ParseName(broken(), "", 0); e != api.ErrCode {
		t.Errorf("ParseName of a list that is not valid: %d", e)
	}
}

// P1.7
func TestSize(t *testing.T) {
	l := parse(t, example)
	for turn, want := range [][2]int{{4, 6}, {6, 4}, {4, 6}, {6, 4}} {
		if w, h, e := signs.Size(l, 0, turn); [2]int{w, h} != want || e != api.OK {
			t.Errorf("Size turned by %d = %d, %d, %d", turn, w, h, e)
		}
	}
	for _, c := range []struct {
		l          api.List
		sign, turn int
		want       api.Errno
	}{
		{l, -1, 0, api.ErrArg}, {l, 3, 0, api.ErrArg}, {l, 0, -1, api.ErrArg}, {l, 0, 4, api.ErrArg}, {l, 0, -1 << 63, api.ErrArg}, {l, 1<<63 - 1, 1<<63 - 1, api.ErrArg}, {broken(), 3, 4, api.ErrCode},
	} {
		if w, h, e := signs.Size(c.l, c.sign, c.turn); w != 0 || h != 0 || e != c.want {
			t.Errorf("Size(%d, %d) = %d, %d, %d, want %d", c.sign, c.turn, w, h, e, c.want)
		}
	}
}
