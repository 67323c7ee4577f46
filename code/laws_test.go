package code_test

import (
	"math"
	"reflect"
	"slices"
	"testing"

	"ostracon/api"
	"ostracon/code"
	"ostracon/groups"
)

// P3.9, P3.8, P3.10: what is written is a text of the code, as long as Size
// says, and is read again.
func TestWriteAndRead(t *testing.T) {
	l := list(t)
	rolls(t, 2, func(d *dice, x api.Text) {
		line := mustWrite(t, code.Line, l, x)
		if len(line) > api.MaxText {
			t.Fatalf("the line of %v has %d bytes", x, len(line))
		}
		for _, kind := range kinds {
			y := x
			if kind == code.Tree {
				y = whole(x)
			}
			s := mustWrite(t, kind, l, y)
			if n, e := code.Size(kind, l, y); n != len(s) || e != api.OK {
				t.Fatalf("Size(%d, %v) = %d, %d, want %d", kind, y, n, e, len(s))
			}
			if z := mustRead(t, kind, l, s); !groups.Same(y, z) {
				t.Fatalf("Read(%d, %q) = %v, want %v", kind, s, z, y)
			}
		}
	})
}

// P3.1, P3.2: the tree code says a text exactly if it lacks nothing.
func TestLacksAndCannot(t *testing.T) {
	l := list(t)
	rolls(t, 3, func(d *dice, x api.Text) {
		var want []int
		for i, n := range whole(x).Nodes {
			if n != x.Nodes[i] {
				want = append(want, i)
			}
		}
		found, e := code.Lacks(code.Tree, l, x)
		if !slices.Equal(found, want) || e != api.OK {
			t.Fatalf("Lacks(%v) = %v, %d, want %v", x, found, e, want)
		}
		if _, e := code.Write(code.Tree, l, x); (e == api.ErrCannot) != (len(want) > 0) {
			t.Fatalf("Write(%v): %d, but Lacks has %v", x, e, want)
		}
	})
}

// P3.10: as the tree of a text gives the text, no two texts have the same.
func TestPrettyAndParse(t *testing.T) {
	l := list(t)
	rolls(t, 4, func(d *dice, x api.Text) {
		s, e := code.Pretty(l, x)
		if e != api.OK {
			t.Fatalf("Pretty(%v): %d", x, e)
		}
		if y, e := code.ParsePretty(l, s); e != api.OK || !groups.Same(x, y) {
			t.Fatalf("ParsePretty(%q) = %v, %d, want %v", s, y, e, x)
		}
		bad := d.spoil(s)
		y, e := code.ParsePretty(l, bad)
		if e == api.OK {
			back, _ := code.Pretty(l, y)
			if back != bad {
				t.Fatalf("ParsePretty(%q) = %v, but Pretty of that is %q", bad, y, back)
			}
		} else if e != api.ErrForm {
			t.Fatalf("ParsePretty(%q): %d", bad, e)
		}
	})
}

// P3.4, P3.11
func TestTranslateLaws(t *testing.T) {
	l := list(t)
	rolls(t, 5, func(d *dice, x api.Text) {
		for _, from := range kinds {
			for _, to := range kinds {
				y := x
				if from == code.Tree {
					y = whole(x)
				}
				s := mustWrite(t, from, l, y)
				out, lost, e := code.Translate(from, to, l, s)
				if e != api.OK {
					t.Fatalf("Translate(%d, %d, %q): %d", from, to, s, e)
				}
				expectTranslated(t, l, y, mustRead(t, to, l, out), lost)
				if back, _, e := code.Translate(to, from, l, out); len(lost) == 0 && (back != s || e != api.OK) {
					t.Fatalf("Translate of %q back = %q, %d, want %q", out, back, e, s)
				}
			}
		}
	})
}

// expectTranslated expects of a translated text that it differs from the
// original in the states and gaps of the nodes that were lost, and in nothing else.
func expectTranslated(t *testing.T, l api.List, from, to api.Text, lost []int) {
	t.Helper()
	if len(from.Nodes) != len(to.Nodes) {
		t.Fatalf("%v becomes %v", from, to)
	}
	var changed []int
	for i, n := range from.Nodes {
		if n == to.Nodes[i] {
			continue
		}
		changed = append(changed, i)
		n.State, n.Min = api.Whole, n.Max
		if n != to.Nodes[i] {
			t.Fatalf("the node %d of %v becomes %v", i, from, to.Nodes[i])
		}
	}
	if !slices.Equal(lost, changed) {
		t.Fatalf("%v becomes %v, but %v are said to be lost", from, to, lost)
	}
	a, e := groups.Order(l, from)
	b, f := groups.Order(l, to)
	if !slices.Equal(a, b) || e != f {
		t.Fatalf("the Order of %v is %v, that of %v %v", from, a, to, b)
	}
	rings, _ := groups.Rings(l, from)
	if others, e := groups.Rings(l, to); !slices.Equal(rings, others) || e != api.OK {
		t.Fatalf("the Rings of %v are %v, those of %v %v", from, rings, to, others)
	}
}

// P3.5: two strings are the same if their texts are alike, in whatever code.
func TestSameIsAlike(t *testing.T) {
	l := list(t)
	rolls(t, 6, func(d *dice, x api.Text) {
		x = whole(x)
		flat, e := groups.Flat(l, x)
		if e != api.OK {
			t.Fatal(e)
		}
		for _, y := range []api.Text{x, flat, whole(d.text())} {
			want, _ := groups.Alike(l, x, y)
			for _, kind := range kinds {
				expectSame(t, kind, l, mustWrite(t, kind, l, x), mustWrite(t, kind, l, y), want, api.OK)
			}
		}
	})
}

// call is what a function returns, with the error at the end.
type call struct {
	name    string
	results []any
	e       api.Errno
}

// calls are the results of all functions of the package for some arguments.
func calls(l api.List, x api.Text, s, other string, kind, to int) []call {
	written, writeError := code.Write(kind, l, x)
	found, lacksError := code.Lacks(kind, l, x)
	size, sizeError := code.Size(kind, l, x)
	pretty, prettyError := code.Pretty(l, x)
	read, at, readError := code.Read(kind, l, s)
	out, lost, translateError := code.Translate(kind, to, l, s)
	same, sameError := code.Same(kind, l, s, other)
	parsed, parseError := code.ParsePretty(l, s)
	if readError == api.ErrForm || readError == api.ErrSign {
		at = 0
	}
	return []call{
		{"Write", []any{written}, writeError},
		{"Lacks", []any{append([]int{}, found...)}, lacksError},
		{"Size", []any{size}, sizeError},
		{"Pretty", []any{pretty}, prettyError},
		{"Read", []any{append([]api.Node{}, read.Nodes...), at}, readError},
		{"Translate", []any{out, append([]int{}, lost...)}, translateError},
		{"Same", []any{same}, sameError},
		{"ParsePretty", []any{append([]api.Node{}, parsed.Nodes...)}, parseError},
	}
}

func isZero(result any) bool {
	v := reflect.ValueOf(result)
	return v.IsZero() || v.Kind() == reflect.Slice && v.Len() == 0
}

func (d *dice) number() int {
	return pick(d, []int{0, 1, 2, 3, 4, 5, 6, 7, 9, 10, 200, -1, math.MinInt, math.MaxInt})
}

// someText returns a text that need not be valid in any way.
func (d *dice) someText() api.Text {
	x := d.text()
	for range d.below(3) {
		if len(x.Nodes) > 0 {
			n := &x.Nodes[d.below(len(x.Nodes))]
			*pick(d, []*int{&n.Kind, &n.Depth, &n.Sign, &n.Turn, &n.State, &n.Min, &n.Max}) = d.number()
		}
	}
	return x
}

func (d *dice) someString() string {
	if d.below(4) == 0 {
		return "above\n  A1\n  " + d.spoil("B2\n")
	}
	s := d.someSentence(pick(d, kinds))
	for range d.below(3) {
		s = d.spoil(s)
	}
	return s
}

// P0.1, R2, R4: no argument makes a function panic, the results depend on the
// arguments alone, no argument is changed, and with an error every other result
// is its zero value.
func TestAnyArguments(t *testing.T) {
	d := dice(7)
	lists := []api.List{list(t), list(t), list(t), {Periods: 1}, {}, brokenList()}
	for range 3000 {
		l, x, s, other := pick(&d, lists), d.someText(), d.someString(), d.someString()
		kind, to := pick(&d, []int{1, 2, 1, 2, d.number()}), pick(&d, []int{1, 2, d.number()})
		before := text(slices.Clone(x.Nodes)...)
		first := calls(l, x, s, other, kind, to)
		if !groups.Same(x, before) {
			t.Fatalf("calls with %v change it to %v", before, x)
		}
		if second := calls(l, x, s, other, kind, to); !reflect.DeepEqual(first, second) {
			t.Fatalf("calls with %v, %q, %d, %d give %v, then %v", x, s, kind, to, first, second)
		}
		for _, c := range first {
			if c.e != api.OK && slices.ContainsFunc(c.results, func(r any) bool { return !isZero(r) }) {
				t.Fatalf("%s with %v, %q, %q, %d, %d gives %v, %d", c.name, x, s, other, kind, to, c.results, c.e)
			}
		}
	}
	if !reflect.DeepEqual(lists[0], list(t)) {
		t.Errorf("calls change a list")
	}
}

// R3: a nil list and an empty one are the same.
func TestNilAndEmpty(t *testing.T) {
	for _, kind := range kinds {
		none := calls(api.List{Periods: 1}, api.Text{}, "", "", kind, code.Tree)
		empty := calls(api.List{Periods: 1, Signs: []api.Sign{}}, api.Text{Nodes: []api.Node{}}, "", "", kind, code.Tree)
		if !reflect.DeepEqual(none, empty) {
			t.Errorf("calls with nil give %v, with an empty list %v", none, empty)
		}
		for _, c := range none {
			expectError(t, c.name+" of nothing", c.e, api.OK)
		}
	}
}

// P3.1, P3.3: a sign is written by its code, whatever its number is.
func TestOtherNumbers(t *testing.T) {
	l := list(t)
	turned := api.List{Periods: 1, Signs: slices.Clone(l.Signs)}
	slices.Reverse(turned.Signs)
	rolls(t, 8, func(d *dice, x api.Text) {
		s := mustWrite(t, code.Line, l, x)
		y := mustRead(t, code.Line, turned, s)
		for i, n := range y.Nodes {
			if n.Kind == api.Glyph && n.Sign != len(l.Signs)-1-x.Nodes[i].Sign {
				t.Fatalf("Read(%q) with the signs turned round = %v", s, y)
			}
		}
		if back := mustWrite(t, code.Line, turned, y); back != s {
			t.Fatalf("Write with the signs turned round = %q, want %q", back, s)
		}
	})
}
