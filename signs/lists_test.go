package signs_test

import (
	"cmp"
	"slices"
	"strings"
	"testing"

	"ostracon/api"
	"ostracon/signs"
)

// P1.8
func TestTidy(t *testing.T) {
	for text, want := range map[string]string{
		"periods 9\n":        "periods 9\n",
		"periods 1\nA 1x1\n": "periods 1\nA 1x1\n",
		"periods 3\nA1 4x6 w:b@3-3 w:b@1-1 w:b@2-2 s:a@2-2\n":  "periods 3\nA1 4x6 s:a@2-2 w:b@1-3\n",
		"periods 9\nA 1x1 s:a@6-9 s:a@1-4\n":                   "periods 9\nA 1x1 s:a@1-4 s:a@6-9\n",
		"periods 9\nA 1x1 s:a@5-9 s:a@1-4\n":                   "periods 9\nA 1x1 s:a@1-9\n",
		"periods 9\nA 1x1 s:a@8-9 s:a@3-4 s:a@1-2 s:a@6-7\n":   "periods 9\nA 1x1 s:a@1-4 s:a@6-9\n",
		"periods 2\nA 1x1 s:a@1-1 w:a@2-2 s:b@2-2 s:A@2-2\n":   "periods 2\nA 1x1 s:A@2-2 s:a@1-1 s:b@2-2 w:a@2-2\n",
		"periods 2\nA 1x1 c:a@1-1 w:b@1-1 w:a@1-1 s:z@1-1\n":   "periods 2\nA 1x1 s:z@1-1 w:a@1-1 w:b@1-1 c:a@1-1\n",
		"periods 2\nA 1x1 s:b@1-1 s:ab@1-1 s:a@1-1 s:aB@1-1\n": "periods 2\nA 1x1 s:a@1-1 s:aB@1-1 s:ab@1-1 s:b@1-1\n",
		"periods 2\nB 2x1 = s:a@2-2 s:a@1-1\nA 1x1 s:a@1-1\n":  "periods 2\nB 2x1 = s:a@1-2\nA 1x1 s:a@1-1\n",
	} {
		l, e := signs.Tidy(parse(t, text))
		if e != api.OK || format(t, l) != want {
			t.Errorf("Tidy(%q) = %v, %d, want %q", text, l, e, want)
		}
	}
	if l, e := signs.Tidy(broken()); e != api.ErrCode || !signs.Same(l, api.List{}) {
		t.Errorf("Tidy of a list that is not valid = %v, %d", l, e)
	}
}

// P1.9
func TestRestrict(t *testing.T) {
	l := parse(t, "periods 4\nB2 1x2 = w:b@2-3 s:a@1-4 s:b@4-4\nA1 3x1\nC3 1x1 c:z@1-2\n")
	for i, want := range []string{
		"periods 1\nB2 1x2 = s:a@1-1\nA1 3x1\nC3 1x1 c:z@1-1\n",
		"periods 1\nB2 1x2 = w:b@1-1 s:a@1-1\nA1 3x1\nC3 1x1 c:z@1-1\n",
		"periods 1\nB2 1x2 = w:b@1-1 s:a@1-1\nA1 3x1\nC3 1x1\n",
		"periods 1\nB2 1x2 = s:a@1-1 s:b@1-1\nA1 3x1\nC3 1x1\n",
	} {
		if r, e := signs.Restrict(l, i+1); e != api.OK || format(t, r) != want {
			t.Errorf("Restrict to %d = %v, %d", i+1, r, e)
		}
	}
	for _, c := range []struct {
		l      api.List
		period int
		want   api.Errno
	}{{l, 0, api.ErrPeriod}, {l, 5, api.ErrPeriod}, {l, -1, api.ErrPeriod}, {broken(), 5, api.ErrCode}} {
		if r, e := signs.Restrict(c.l, c.period); e != c.want || !signs.Same(r, api.List{}) {
			t.Errorf("Restrict to %d = %v, %d, want %d", c.period, r, e, c.want)
		}
	}
}

// P1.10
func TestMerge(t *testing.T) {
	for _, c := range []struct{ a, b, want string }{
		{"periods 2\n", "periods 1\n", "periods 2\n"},
		{"periods 1\n", "periods 9\n", "periods 9\n"},
		{"periods 1\nB 1x1\nA 1x1\n", "periods 1\nC 1x1\nA 1x1\nA0 1x1\n", "periods 1\nB 1x1\nA 1x1\nC 1x1\nA0 1x1\n"},
		{"periods 9\nA 1x1 s:a@1-4\n", "periods 9\nA 1x1 s:a@3-6\n", "periods 9\nA 1x1 s:a@1-6\n"},
		{"periods 9\nA 1x1 s:a@1-9\n", "periods 9\nA 1x1 s:a@3-6\n", "periods 9\nA 1x1 s:a@1-9\n"},
		{"periods 9\nA 1x1 s:a@5-6\n", "periods 9\nA 1x1 s:a@3-4\n", "periods 9\nA 1x1 s:a@3-6\n"},
		{"periods 9\nA 1x1 s:a@6-6\n", "periods 9\nA 1x1 s:a@3-4\n", "periods 9\nA 1x1 s:a@3-4 s:a@6-6\n"},
		{"periods 9\nA 1x1 s:a@1-1 s:a@3-3 s:a@7-7\n", "periods 9\nA 1x1 s:a@2-2 s:a@6-6\n", "periods 9\nA 1x1 s:a@1-3 s:a@6-7\n"},
		{"periods 2\nA 1x1 w:b@1-1 s:b@2-2 s:b@1-1\n", "periods 3\nA 1x1 c:b@3-3 s:a@3-3\n", "periods 3\nA 1x1 s:a@3-3 s:b@1-2 w:b@1-1 c:b@3-3\n"},
		{"periods 2\nA 1x1 w:b@2-2 w:b@1-1\n", "periods 2\nB 1x1 = w:b@2-2 s:b@1-1\n", "periods 2\nA 1x1 w:b@1-2\nB 1x1 = s:b@1-1 w:b@2-2\n"},
		{"periods 2\nA 1x1 s:ab@1-1\n", "periods 2\nA 1x1 s:a@2-2 s:B@1-1\n", "periods 2\nA 1x1 s:B@1-1 s:a@2-2 s:ab@1-1\n"},
	} {
		m, e := signs.Merge(parse(t, c.a), parse(t, c.b))
		if e != api.OK || format(t, m) != c.want {
			t.Errorf("Merge(%q, %q) = %v, %d, want %q", c.a, c.b, m, e, c.want)
		}
	}
}

// twelve is a sign with values of twelve sounds.
func twelve(code, sounds string) api.Sign {
	s := api.Sign{Code: code, Wide: 1, High: 1}
	for _, text := range strings.Split(sounds, "") {
		s.Values = append(s.Values, value(api.Sound, text, 1, 1))
	}
	return s
}

// P1.10: errors, in their order.
func TestMergeErrors(t *testing.T) {
	noPeriod := api.List{}
	tooMany := many("S", 201)
	full := many("A", 200)
	wide := api.List{Periods: 1, Signs: []api.Sign{{Code: "A199", Wide: 2, High: 1}, {Code: "Z", Wide: 1, High: 1}}}
	high := api.List{Periods: 1, Signs: []api.Sign{{Code: "Z", Wide: 1, High: 1}, {Code: "A199", Wide: 1, High: 2}}}
	even := api.List{Periods: 1, Signs: []api.Sign{{Code: "A199", Wide: 1, High: 1, Even: true}}}
	half := api.List{Periods: 1, Signs: []api.Sign{twelve("A", "abcdefghijkl"), {Code: "B", Wide: 1, High: 1}}}
	other := api.List{Periods: 1, Signs: []api.Sign{twelve("A", "abcdefghijkm"), {Code: "B", Wide: 1, High: 1}}}
	unlike := clone(other)
	unlike.Signs[1].High = 2
	for _, c := range []struct {
		what string
		a, b api.List
		want api.Errno
	}{
		{"the first list", broken(), noPeriod, api.ErrCode},
		{"the second list", half, noPeriod, api.ErrPeriod},
		{"both lists", tooMany, broken(), api.ErrMany},
		{"another width, and too many signs", full, wide, api.ErrSize},
		{"another height, and too many signs", full, high, api.ErrSize},
		{"another mirror image", full, even, api.ErrSize},
		{"another mirror image of the first list", even, full, api.ErrSize},
		{"201 signs", full, many("B", 1), api.ErrMany},
		{"200 and 200 signs", full, many("B", 200), api.ErrMany},
		{"199 and 1 signs", many("A", 199), many("B", 1), api.OK},
		{"200 signs that both have", full, full, api.OK},
		{"13 values", half, other, api.ErrMany},
		{"12 values that both have", half, half, api.OK},
		{"13 values, and then another height", half, unlike, api.ErrSize},
	} {
		m, e := signs.Merge(c.a, c.b)
		if e != c.want {
			t.Errorf("Merge with %s: %d, want %d", c.what, e, c.want)
		}
		if e != api.OK && !signs.Same(m, api.List{}) {
			t.Errorf("Merge with %s returns %v with an error", c.what, m)
		}
	}
}

// P1.10: 24 values of a sign that become fewer are not too many.
func TestMergeToFewer(t *testing.T) {
	a := api.List{Periods: 2, Signs: []api.Sign{twelve("A", "abcdefghijkl")}}
	b := clone(a)
	for i := range b.Signs[0].Values {
		b.Signs[0].Values[i].From, b.Signs[0].Values[i].To = 2, 2
	}
	m, e := signs.Merge(a, b)
	if e != api.OK || len(m.Signs) != 1 || len(m.Signs[0].Values) != 12 || m.Signs[0].Values[11] != value(1, "l", 1, 2) {
		t.Errorf("Merge = %v, %d", m, e)
	}
}

type kindText struct {
	kind int
	text string
}

// periodsOf collects in which periods a sign has what, as bits.
func periodsOf(into map[kindText]uint, s api.Sign) {
	for _, v := range s.Values {
		for p := v.From; p <= v.To; p++ {
			into[kindText{v.Kind, v.Text}] |= 1 << p
		}
	}
}

// stretches are the longest stretches of periods, sorted as Tidy sorts them.
func stretches(of map[kindText]uint) []api.Value {
	var out []api.Value
	for k, bits := range of {
		for p := 1; p <= api.MaxPeriods; p++ {
			if bits>>p&1 == 1 && bits>>(p-1)&1 == 0 {
				to := p
				for bits>>(to+1)&1 == 1 {
					to++
				}
				out = append(out, value(k.kind, k.text, p, to))
			}
		}
	}
	slices.SortFunc(out, func(a, b api.Value) int {
		return cmp.Or(a.Kind-b.Kind, strings.Compare(a.Text, b.Text), a.From-b.From)
	})
	return out
}

// merged is what P1.10 says, period by period; ok is false if a sign has too many values.
func merged(a, b api.List) (m api.List, ok bool) {
	m.Periods = max(a.Periods, b.Periods)
	ok = true
	for _, s := range append(slices.Clone(a.Signs), b.Signs...) {
		if slices.ContainsFunc(m.Signs, func(x api.Sign) bool { return x.Code == s.Code }) {
			continue
		}
		of := map[kindText]uint{}
		for _, x := range append(slices.Clone(a.Signs), b.Signs...) {
			if x.Code == s.Code {
				periodsOf(of, x)
			}
		}
		s.Values = stretches(of)
		ok = ok && len(s.Values) <= api.MaxValues
		m.Signs = append(m.Signs, s)
	}
	return m, ok
}

// P1.8 and P1.10 by their definitions, for many lists.
func TestMergeByPeriods(t *testing.T) {
	d := dice(1)
	large := 0
	for range 3000 {
		a, b := d.roll(), d.roll()
		want, ok := merged(a, b)
		m, e := signs.Merge(a, b)
		switch {
		case ok && (e != api.OK || !signs.Same(m, want)):
			t.Fatalf("Merge(%v, %v) = %v, %d, want %v", a, b, m, e, want)
		case !ok && e != api.ErrMany:
			t.Fatalf("Merge(%v, %v): %d", a, b, e)
		case !ok:
			large++
		}
		if tidy, e := signs.Tidy(a); e != api.OK {
			t.Fatalf("Tidy(%v): %d", a, e)
		} else if want, _ := merged(a, api.List{}); !signs.Same(tidy, want) {
			t.Fatalf("Tidy(%v) = %v, want %v", a, tidy, want)
		}
	}
	if large == 0 || large == 3000 {
		t.Errorf("%d of 3000 lists have too many values", large)
	}
}

// P1.11
func TestSame(t *testing.T) {
	base := parse(t, example)
	if !signs.Same(base, clone(base)) || !signs.Same(api.List{}, api.List{}) {
		t.Errorf("Same of equal lists is false")
	}
	for what, change := range map[string]func(l *api.List){
		"periods":             func(l *api.List) { l.Periods = 3 },
		"code":                func(l *api.List) { l.Signs[0].Code = "A2" },
		"width":               func(l *api.List) { l.Signs[0].Wide++ },
		"height":              func(l *api.List) { l.Signs[2].High++ },
		"even":                func(l *api.List) { l.Signs[1].Even = false },
		"kind":                func(l *api.List) { l.Signs[0].Values[1].Kind = api.Class },
		"text":                func(l *api.List) { l.Signs[0].Values[1].Text = "nfR" },
		"from":                func(l *api.List) { l.Signs[0].Values[0].From = 2 },
		"to":                  func(l *api.List) { l.Signs[2].Values[0].To = 1 },
		"order of values":     func(l *api.List) { v := l.Signs[0].Values; v[0], v[1] = v[1], v[0] },
		"order of signs":      func(l *api.List) { l.Signs[0], l.Signs[1] = l.Signs[1], l.Signs[0] },
		"a value less":        func(l *api.List) { l.Signs[0].Values = l.Signs[0].Values[:1] },
		"a value more":        func(l *api.List) { l.Signs[2].Values = append(l.Signs[2].Values, value(1, "a", 1, 1)) },
		"a sign less":         func(l *api.List) { l.Signs = l.Signs[:2] },
		"a sign more":         func(l *api.List) { l.Signs = append(l.Signs, api.Sign{}) },
		"nothing but periods": func(l *api.List) { l.Signs = nil },
	} {
		l := clone(base)
		change(&l)
		if signs.Same(base, l) || signs.Same(l, base) {
			t.Errorf("Same with another %s is true", what)
		}
	}
}

// P1.11: lists that are not valid; R3: nil and empty lists.
func TestSameAnyLists(t *testing.T) {
	odd := api.List{Periods: -1, Signs: []api.Sign{{Code: "\xff", Wide: -1, Values: []api.Value{value(9, "", 5, 2)}}, {}, {}}}
	if !signs.Same(odd, clone(odd)) {
		t.Errorf("Same of equal lists that are not valid is false")
	}
	other := clone(odd)
	other.Signs[0].Values[0].From = 4
	if signs.Same(odd, other) {
		t.Errorf("Same of unequal lists that are not valid is true")
	}
	if large := many("S", 300); !signs.Same(large, many("S", 300)) || signs.Same(large, many("S", 301)) {
		t.Errorf("Same of lists with too many signs")
	}
	if !signs.Same(api.List{Periods: 1, Signs: []api.Sign{}}, api.List{Periods: 1}) || !signs.Same(with(1), with(1, []api.Value{}...)) {
		t.Errorf("Same tells nil lists from empty ones")
	}
	empty := with(1)
	empty.Signs[0].Values = []api.Value{}
	if !signs.Same(empty, with(1)) {
		t.Errorf("Same tells nil values from empty ones")
	}
}
