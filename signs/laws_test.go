package signs_test

import (
	"reflect"
	"slices"
	"testing"

	"ostracon/api"
	"ostracon/signs"
)

// P1.14: Bearers and Values say the same; ParseName is the inverse of Name.
func TestValuesAndBearers(t *testing.T) {
	d := dice(2)
	for range 150 {
		l := d.roll()
		for period := 1; period <= l.Periods; period++ {
			for kind := api.Sound; kind <= api.Class; kind++ {
				for _, text := range []string{"a", "ab", "b", "c"} {
					checkBearers(t, l, kind, text, period)
				}
			}
		}
	}
}

func checkBearers(t *testing.T, l api.List, kind int, text string, period int) {
	t.Helper()
	var want []int
	for i := range l.Signs {
		values, e := signs.Values(l, i, period)
		if e != api.OK {
			t.Fatalf("Values(%v, %d, %d): %d", l, i, period, e)
		}
		if slices.ContainsFunc(values, func(v api.Value) bool { return v.Kind == kind && v.Text == text }) {
			want = append(want, i)
		}
	}
	got, e := signs.Bearers(l, kind, text, period)
	if e != api.OK || !slices.Equal(got, want) {
		t.Fatalf("Bearers(%v, %d, %q, %d) = %v, %d, want %v", l, kind, text, period, got, e, want)
	}
	for i := range l.Signs {
		if kind == api.Sound {
			checkName(t, l, i, text, period, slices.Contains(want, i))
		}
	}
}

func checkName(t *testing.T, l api.List, sign int, text string, period int, bears bool) {
	t.Helper()
	name, e := signs.Name(l, sign, text, period)
	if !bears {
		if e != api.ErrNone {
			t.Fatalf("Name(%v, %d, %q, %d) = %q, %d", l, sign, text, period, name, e)
		}
		return
	}
	s, x, f := signs.ParseName(l, name, period)
	if e != api.OK || f != api.OK || s != sign || x != text {
		t.Fatalf("ParseName of Name(%v, %d, %q, %d) = %q, %d is %d, %q, %d", l, sign, text, period, name, e, s, x, f)
	}
}

// P1.14: Parse is the inverse of Format.
func TestParseOfFormat(t *testing.T) {
	d := dice(3)
	for range 1000 {
		l := d.roll()
		back, line, e := signs.Parse(format(t, l))
		if e != api.OK || line != 0 || !signs.Same(back, l) {
			t.Fatalf("Parse(Format(%v)) = %v, line %d, %d", l, back, line, e)
		}
	}
	largest := many("Abcde", 200)
	for i := range largest.Signs {
		largest.Signs[i] = twelve(largest.Signs[i].Code, "abcdefghijkl")
	}
	if text := format(t, largest); !signs.Same(parse(t, text), largest) {
		t.Errorf("Parse(Format) of the largest list")
	}
}

// P1.13: a text is read only if it is just what Format writes.
func TestFormatOfParse(t *testing.T) {
	const bytes = "01239 \n:@-x=swcAazZ\x00\xff"
	d := dice(4)
	read := 0
	for range 20000 {
		text := []byte(example)
		for range 1 + d.below(2) {
			at := d.below(len(text))
			switch b := bytes[d.below(len(bytes))]; d.below(3) {
			case 0:
				text[at] = b
			case 1:
				text = slices.Insert(text, at, b)
			default:
				text = slices.Delete(text, at, at+1)
			}
		}
		if l, _, e := signs.Parse(string(text)); e == api.OK {
			read++
			if s := format(t, l); s != string(text) {
				t.Fatalf("%q is read as %v, which is written %q", text, l, s)
			}
		}
	}
	if read == 0 {
		t.Errorf("no text was read")
	}
}

func bySense(a, b api.Value) int {
	if a.Kind != b.Kind {
		return a.Kind - b.Kind
	}
	return slices.Compare([]byte(a.Text), []byte(b.Text))
}

// senses are the values of a sign in a period without From and To, sorted.
func senses(t *testing.T, l api.List, sign, period int) []api.Value {
	t.Helper()
	values, e := signs.Values(l, sign, period)
	if e != api.OK {
		t.Fatalf("Values(%v, %d, %d): %d", l, sign, period, e)
	}
	for i := range values {
		values[i].From, values[i].To = 0, 0
	}
	slices.SortFunc(values, bySense)
	return values
}

// P1.14: Restrict and Tidy change no values but for their order and their periods.
func TestRestrictAndTidyKeepValues(t *testing.T) {
	d := dice(5)
	for range 300 {
		l := d.roll()
		tidy, e := signs.Tidy(l)
		if e != api.OK || signs.Check(tidy) != api.OK || len(tidy.Signs) != len(l.Signs) {
			t.Fatalf("Tidy(%v) = %v, %d", l, tidy, e)
		}
		for period := 1; period <= l.Periods; period++ {
			one, e := signs.Restrict(l, period)
			if e != api.OK || signs.Check(one) != api.OK || len(one.Signs) != len(l.Signs) || one.Periods != 1 {
				t.Fatalf("Restrict(%v, %d) = %v, %d", l, period, one, e)
			}
			for i := range l.Signs {
				want := senses(t, l, i, period)
				if got := senses(t, tidy, i, period); !slices.Equal(got, want) {
					t.Fatalf("Tidy(%v): sign %d has %v in %d", l, i, got, period)
				}
				if got := senses(t, one, i, 1); !slices.Equal(got, want) {
					t.Fatalf("Restrict(%v, %d): sign %d has %v", l, period, i, got)
				}
			}
		}
	}
}

// P1.15
func TestMergeLaws(t *testing.T) {
	d := dice(6)
	for range 300 {
		a, b := d.roll(), d.roll()
		tidy, e := signs.Tidy(a)
		self, f := signs.Merge(a, a)
		if e != api.OK || f != api.OK || !signs.Same(tidy, self) {
			t.Fatalf("Merge(%v, itself) = %v, %d, Tidy = %v, %d", a, self, f, tidy, e)
		}
		m, e := signs.Merge(a, b)
		if e != api.OK {
			continue
		}
		for i, s := range a.Signs {
			for period := 1; period <= a.Periods; period++ {
				want := senses(t, a, i, period)
				if j, e := signs.Find(b, s.Code); e == api.OK && period <= b.Periods {
					want = append(want, senses(t, b, j, period)...)
				}
				slices.SortFunc(want, bySense)
				if got := senses(t, m, i, period); !slices.Equal(got, slices.Compact(want)) {
					t.Fatalf("Merge(%v, %v): sign %d has %v in %d, want %v", a, b, i, got, period, want)
				}
			}
		}
	}
}

// calls are the results of all functions of the package for some arguments.
func calls(l, m api.List, sign, number int, text string) [][]any {
	var all [][]any
	add := func(results ...any) { all = append(all, listed(results...)) }
	add(signs.Check(l))
	n, e := signs.Find(l, text)
	add(n, e)
	values, e := signs.Values(l, sign, number)
	add(values, e)
	bearers, e := signs.Bearers(l, sign, text, number)
	add(bearers, e)
	name, e := signs.Name(l, sign, text, number)
	add(name, e)
	n, s, e := signs.ParseName(l, text, number)
	add(n, s, e)
	wide, high, e := signs.Size(l, sign, number)
	add(wide, high, e)
	tidy, e := signs.Tidy(l)
	add(tidy, e)
	one, e := signs.Restrict(l, number)
	add(one, e)
	both, e := signs.Merge(l, m)
	add(both, e)
	add(signs.Same(l, m))
	s, e = signs.Format(l)
	add(s, e)
	read, line, e := signs.Parse(text)
	add(read, line, e)
	return all
}

// P0.1 and R4: no argument makes a function panic, the results depend on the
// arguments alone, and no argument is changed.
func TestAnyArguments(t *testing.T) {
	d := dice(7)
	for i := range 20000 {
		l, m := d.wild(), d.wild()
		if i%4 == 0 {
			l, m = d.roll(), d.roll()
		}
		sign, number, text := d.number(), d.number(), d.text()
		l2, m2 := clone(l), clone(m)
		first := calls(l, m, sign, number, text)
		if !signs.Same(l, l2) || !signs.Same(m, m2) {
			t.Fatalf("calls with %v, %v, %d, %d, %q change a list", l2, m2, sign, number, text)
		}
		if second := calls(l2, m2, sign, number, text); !reflect.DeepEqual(first, second) {
			t.Fatalf("calls with %v, %v, %d, %d, %q give %v, then %v", l, m, sign, number, text, first, second)
		}
	}
}

// parseCall is the place of Parse in calls.
const parseCall = 12

// R2: with an error every other result is its zero value, but for the line of Parse.
func TestZeroWithError(t *testing.T) {
	d := dice(8)
	for range 5000 {
		l, m, sign, number, text := d.wild(), d.wild(), d.number(), d.number(), d.text()
		for i, results := range calls(l, m, sign, number, text) {
			last := len(results) - 1
			if e, ok := results[last].(api.Errno); !ok || e == api.OK {
				continue
			}
			for _, r := range results[:last] {
				if _, isLine := r.(int); i == parseCall && isLine {
					continue
				}
				if r != nil && !reflect.ValueOf(r).IsZero() {
					t.Fatalf("call %d with %v, %v, %d, %d, %q gives %v", i, l, m, sign, number, text, results)
				}
			}
		}
	}
}

// spoil overwrites all that can be reached through a list, and what lies behind its lists.
func spoil(l api.List) {
	for i := range l.Signs {
		values := l.Signs[i].Values[:cap(l.Signs[i].Values)]
		for j := range values {
			values[j] = api.Value{Kind: -1, Text: "spoilt"}
		}
	}
	all := l.Signs[:cap(l.Signs)]
	for i := range all {
		all[i] = api.Sign{Code: "spoilt"}
	}
}

// R4: results share no memory with arguments.
func TestNewMemory(t *testing.T) {
	d := dice(9)
	for range 300 {
		a, b := d.roll(), d.roll()
		wantA, wantB := clone(a), clone(b)
		results := map[string]func() (api.List, api.Errno){
			"Tidy":     func() (api.List, api.Errno) { return signs.Tidy(a) },
			"Restrict": func() (api.List, api.Errno) { return signs.Restrict(a, 1) },
			"Merge":    func() (api.List, api.Errno) { return signs.Merge(a, b) },
		}
		for name, call := range results {
			l, _ := call()
			spoil(l)
			if !signs.Same(a, wantA) || !signs.Same(b, wantB) {
				t.Fatalf("the result of %s shares memory with an argument", name)
			}
		}
		for i := range a.Signs {
			values, _ := signs.Values(a, i, 1)
			spoil(api.List{Signs: []api.Sign{{Values: values}}})
			if !signs.Same(a, wantA) {
				t.Fatalf("the result of Values shares memory with the list")
			}
		}
	}
}

// R4: the lists of one result share no memory with each other.
func TestSeparateLists(t *testing.T) {
	a := parse(t, "periods 2\nA 1x1 s:a@1-2\nB 1x1 s:b@1-2\nC 1x1 s:c@1-2\n")
	tidy, _ := signs.Tidy(a)
	one, _ := signs.Restrict(a, 1)
	both, _ := signs.Merge(a, a)
	for name, l := range map[string]api.List{"Parse": a, "Tidy": tidy, "Restrict": one, "Merge": both} {
		want := clone(l)
		first := l.Signs[0].Values
		for range 3 {
			first = append(first, value(1, "x", 1, 1))
		}
		first[0].Text = "x"
		want.Signs[0].Values = l.Signs[0].Values
		if !signs.Same(l, want) {
			t.Errorf("the values of two signs of the result of %s share memory", name)
		}
	}
}

const room = 3

// roomy is an equal list behind whose lists there is memory of somebody else.
func roomy(l api.List) api.List {
	c := clone(l)
	for i, s := range c.Signs {
		c.Signs[i].Values = append(s.Values, make([]api.Value, room)...)[:len(s.Values)]
	}
	c.Signs = append(c.Signs, make([]api.Sign, room)...)[:len(c.Signs)]
	return c
}

// untouched reports whether nobody has written behind the lists of a roomy list.
func untouched(l api.List) bool {
	for _, s := range l.Signs {
		for _, v := range s.Values[len(s.Values) : len(s.Values)+room] {
			if v != (api.Value{}) {
				return false
			}
		}
	}
	for _, s := range l.Signs[len(l.Signs) : len(l.Signs)+room] {
		if s.Code != "" || s.Values != nil {
			return false
		}
	}
	return true
}

// R4: nothing behind the lists of an argument is changed.
func TestMemoryBehindLists(t *testing.T) {
	d := dice(10)
	for range 300 {
		a, b := roomy(d.roll()), roomy(d.roll())
		calls(a, b, 1, 1, "a")
		if !untouched(a) || !untouched(b) {
			t.Fatalf("calls with %v and %v write behind a list", a, b)
		}
	}
}
