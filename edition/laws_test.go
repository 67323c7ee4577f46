package edition_test

import (
	"fmt"
	"math"
	"reflect"
	"slices"
	"strings"
	"testing"

	"ostracon/api"
	"ostracon/code"
	"ostracon/edition"
)

// P12.12
func TestLoadOfSave(t *testing.T) {
	d := dice(70)
	for range 2000 {
		v := d.volume(6)
		s, e := edition.Save(v)
		if e != api.OK {
			t.Fatalf("Save of %v: %d", v, e)
		}
		back, line, e := edition.Load(s)
		if line != 0 || e != api.OK || !edition.Same(back, v) || !same(back, v) {
			t.Fatalf("Load of %q = %v, line %d, %d, want %v", s, back, line, e, v)
		}
		if e := edition.Check(back); e != api.OK {
			t.Fatalf("Check of Load of %q: %d", s, e)
		}
	}
}

// P12.12
func TestRenumberAndBack(t *testing.T) {
	d := dice(71)
	for range 2000 {
		v := d.volume(4)
		order := d.shuffled(len(v.List.Signs))
		inverse := make([]int, len(order))
		for i, sign := range order {
			inverse[sign] = i
		}
		w, e := edition.Renumber(v, order)
		if e != api.OK || edition.Check(w) != api.OK {
			t.Fatalf("Renumber of %v by %v = %v, %d", v, order, w, e)
		}
		back, e := edition.Renumber(w, inverse)
		if e != api.OK || !edition.Same(back, v) {
			t.Fatalf("Renumber of %v by %v and back = %v, %d", v, order, back, e)
		}
		index, e := edition.Index(v)
		other, e2 := edition.Index(w)
		lines, others := strings.SplitAfter(index, "\n"), strings.SplitAfter(other, "\n")
		slices.Sort(lines)
		slices.Sort(others)
		if e != api.OK || e2 != api.OK || !slices.Equal(lines, others) {
			t.Fatalf("Index of %v is %q, %d, and after Renumber by %v it is %q, %d", v, index, e, order, other, e2)
		}
		for i := range v.Items {
			expect(t, "the text after Renumber", written(t, w, i), e, written(t, v, i))
		}
	}
}

// written is the text of an item in the line code.
func written(t *testing.T, v api.Volume, item int) string {
	t.Helper()
	s, e := code.Write(code.Line, v.List, v.Items[item].Text)
	if e != api.OK {
		t.Fatalf("code.Write of %v: %d", v.Items[item], e)
	}
	return s
}

// P12.13
func TestPlacesHaveTheSign(t *testing.T) {
	d := dice(72)
	for range 1000 {
		v := d.volume(4)
		places, signs := 0, 0
		for sign := range v.List.Signs {
			l, e := edition.Where(v, sign)
			if e != api.OK {
				t.Fatalf("Where of %d in %v: %d", sign, v, e)
			}
			places += len(l)
			for _, p := range l {
				if marks(t, v, p.Item)[p.At].Sign != sign {
					t.Fatalf("Where of %d in %v has %v", sign, v, p)
				}
			}
		}
		for _, item := range v.Items {
			for _, n := range item.Text.Nodes {
				if n.Kind == api.Glyph {
					signs++
				}
			}
		}
		if places != signs {
			t.Fatalf("%v has %d places and %d signs", v, places, signs)
		}
	}
}

// P12.13
func TestCourseTeachesAll(t *testing.T) {
	d := dice(73)
	for range 1000 {
		v := d.volume(6)
		known, most := d.known(v.List), 1+d.below(4)
		lessons, e := edition.Course(v, known, most)
		if e != api.OK {
			t.Fatalf("Course of %v: %d", v, e)
		}
		now := slices.Clone(known)
		for i, l := range lessons {
			if len(l.Signs) > most {
				t.Fatalf("Course of %v with %d signs a lesson has %v", v, most, l)
			}
			for _, sign := range l.Signs {
				if slices.Contains(now, sign) {
					t.Fatalf("Course of %v with %v teaches %d again", v, known, sign)
				}
				now = append(now, sign)
			}
			slices.Sort(now)
			if i+1 < len(lessons) && lessons[i+1].Item == l.Item {
				continue
			}
			items, e := edition.Drill(v, now)
			if e != api.OK || !slices.Contains(items, l.Item) {
				t.Fatalf("after %v Drill of %v with %v = %v, %d", l, v, now, items, e)
			}
		}
		stand, e := edition.Frequencies(v)
		for _, sign := range stand {
			if e != api.OK || !slices.Contains(now, sign) {
				t.Fatalf("Course of %v with %v does not teach %d", v, known, sign)
			}
		}
	}
}

// P12.14
func TestJoinKeepsTexts(t *testing.T) {
	d := dice(74)
	seen := map[api.Errno]int{}
	for range 2000 {
		a, b := d.volume(4), d.volume(4)
		for i := range b.Items {
			if d.below(12) > 0 {
				b.Items[i].Title += " b"
			}
		}
		j, e := edition.Join(a, b)
		seen[e]++
		if e != api.OK {
			continue
		}
		if edition.Check(j) != api.OK || len(j.Items) != len(a.Items)+len(b.Items) {
			t.Fatalf("Join of %v and %v = %v", a, b, j)
		}
		for i := range j.Items {
			v, item := a, i
			if i >= len(a.Items) {
				v, item = b, i-len(a.Items)
			}
			if j.Items[i].Title != v.Items[item].Title || written(t, j, i) != written(t, v, item) {
				t.Fatalf("Join of %v and %v = %v", a, b, j)
			}
		}
	}
	if seen[api.OK] < 500 || seen[api.ErrTitle] < 20 {
		t.Errorf("Join gives the errors %v", seen)
	}
}

// P12.1 and P12.9: Find finds what Select has put in order.
func TestFindAfterSelect(t *testing.T) {
	d := dice(75)
	for range 500 {
		v := d.volume(6)
		order := d.shuffled(len(v.Items))
		w, e := edition.Select(v, order)
		if e != api.OK || edition.Check(w) != api.OK {
			t.Fatalf("Select of %v by %v = %v, %d", v, order, w, e)
		}
		for i, item := range order {
			expect(t, "an item of Select", w.Items[i], e, v.Items[item])
			n, e := edition.Find(w, v.Items[item].Title)
			expect(t, "Find", n, e, i)
		}
	}
}

// arguments are those of all functions.
type arguments struct {
	Volume, Other    api.Volume
	Title, Text      string
	Sign, Wide, Item int
	Period, Most     int
	Page             api.Page
	Known, Items     []int
	Order            []int
}

// number returns a number that often is out of some bounds.
func (d *dice) number() int {
	return pick(d, 0, 1, 2, 3, 4, 7, 9, 10, 11, 39, 40, 41, 47, 48, 200, 201, 4800, 4801, -1, -2, math.MinInt, math.MinInt+1, math.MaxInt-1, math.MaxInt)
}

// arguments returns arguments that are valid in many cases.
func (d *dice) arguments() arguments {
	a := arguments{Volume: d.volume(4), Other: d.volume(3), Title: "none", Period: 1, Most: 1 + d.below(4), Wide: d.below(3)}
	for i := range a.Other.Items {
		a.Other.Items[i].Title += pick(d, "", "b", "c")
	}
	if n := len(a.Volume.Items); n > 0 {
		a.Item = d.below(n)
		a.Title = a.Volume.Items[a.Item].Title
		a.Items = d.shuffled(n)[:d.below(n+1)]
	}
	if n := len(a.Volume.List.Signs); n > 0 {
		a.Sign = d.below(n)
		a.Order = d.shuffled(n)
	}
	a.Page = api.Page{Way: 1 + d.below(4), Length: pick(d, 48, 100, 4800)}
	a.Known = d.known(a.Volume.List)
	a.Text, _ = edition.Save(a.Volume)
	d.upset(&a)
	return a
}

// upset makes arguments not valid in some cases.
func (d *dice) upset(a *arguments) {
	switch d.below(20) {
	case 0:
		a.Volume.List.Periods = d.number()
	case 1:
		a.Volume.List.Signs = append(a.Volume.List.Signs, api.Sign{Code: "New", Wide: d.number(), High: 1})
	case 2:
		a.Volume.Items = append(a.Volume.Items, api.Item{Title: pick(d, "", "x ", "\xff", "new")})
	case 3:
		a.Volume.Items = append(a.Volume.Items, api.Item{Title: "new", Text: d.wild()})
	case 4:
		a.Volume.Items = slices.Repeat(a.Volume.Items, 1+d.below(40))
	case 5:
		a.Other.Items = append(a.Other.Items, api.Item{Title: "new", Text: d.wild()})
	case 6:
		a.Other.List = brokenList()
	case 7:
		a.Title = pick(d, "", "none", "\x00")
	case 8:
		a.Sign, a.Item = d.number(), d.number()
	case 9:
		a.Wide, a.Most = d.number(), d.number()
	case 10:
		a.Period = d.number()
	case 11:
		a.Page = api.Page{Way: d.number(), Length: d.number()}
	case 12:
		a.Known = append(a.Known, d.number())
	case 13:
		a.Items = append(a.Items, d.number())
	case 14:
		a.Order = append(a.Order, d.number())
	case 15:
		a.Text = d.spoiled(a.Text)
	case 16:
		a.Text = a.Text[d.below(len(a.Text)+1):]
	case 17:
		a.Order, a.Items, a.Known = slices.Repeat(a.Order, 2), slices.Repeat(a.Items, 2), slices.Repeat(a.Known, 2)
	}
}

// wild returns a text that need not be valid in any way.
func (d *dice) wild() api.Text {
	var x api.Text
	for range d.below(5) {
		n := api.Node{Kind: d.below(9) - 1, Depth: len(x.Nodes)}
		if d.below(2) == 0 {
			n = api.Node{Kind: d.number(), Depth: d.number(), Sign: d.number(), Turn: d.number(), Mirror: d.below(2) == 0, State: d.number(), Min: d.number(), Max: d.number()}
		}
		x.Nodes = append(x.Nodes, n)
	}
	return x
}

// calls are the results of all functions of the package but Same, which has no error.
func calls(a arguments) [][]any {
	var all [][]any
	add := func(results ...any) { all = append(all, results) }
	add(edition.Check(a.Volume))
	n, e := edition.Find(a.Volume, a.Title)
	add(n, e)
	s, e := edition.Save(a.Volume)
	add(s, e)
	v, line, e := edition.Load(a.Text)
	if e != api.OK {
		line = 0
	}
	add(v, line, e)
	where, e := edition.Where(a.Volume, a.Sign)
	add(where, e)
	order, e := edition.Frequencies(a.Volume)
	add(order, e)
	lines, e := edition.Concord(a.Volume, a.Sign, a.Wide, a.Period)
	add(lines, e)
	lines, e = edition.Print(a.Volume, a.Item, a.Page, a.Period)
	add(lines, e)
	s, e = edition.Index(a.Volume)
	add(s, e)
	lessons, e := edition.Course(a.Volume, a.Known, a.Most)
	add(lessons, e)
	items, e := edition.Drill(a.Volume, a.Known)
	add(items, e)
	for _, call := range editsOf(a) {
		v, e := call()
		add(v, e)
	}
	return all
}

// editsOf are the calls that return a volume alone.
func editsOf(a arguments) []func() (api.Volume, api.Errno) {
	return []func() (api.Volume, api.Errno){
		func() (api.Volume, api.Errno) { return edition.Select(a.Volume, a.Items) },
		func() (api.Volume, api.Errno) { return edition.Join(a.Volume, a.Other) },
		func() (api.Volume, api.Errno) { return edition.Join(a.Other, a.Volume) },
		func() (api.Volume, api.Errno) { return edition.Renumber(a.Volume, a.Order) },
	}
}

// remade returns an equal value whose lists are new and not nil, with room for some
// more elements behind each.
func remade[T any](x T, room int) T {
	return remadeValue(reflect.ValueOf(x), room).Interface().(T)
}

func remadeValue(v reflect.Value, room int) reflect.Value {
	switch v.Kind() {
	case reflect.Slice:
		list := reflect.MakeSlice(v.Type(), v.Len(), v.Len()+room)
		for i := range v.Len() {
			list.Index(i).Set(remadeValue(v.Index(i), room))
		}
		return list
	case reflect.Struct:
		made := reflect.New(v.Type()).Elem()
		for i := range v.NumField() {
			made.Field(i).Set(remadeValue(v.Field(i), room))
		}
		return made
	}
	return v
}

// bare returns an equal value in which nil stands for each empty list.
func bare(v reflect.Value) reflect.Value {
	made := reflect.New(v.Type()).Elem()
	switch v.Kind() {
	case reflect.Slice:
		for i := range v.Len() {
			made.Set(reflect.Append(made, bare(v.Index(i))))
		}
	case reflect.Struct:
		for i := range v.NumField() {
			made.Field(i).Set(bare(v.Field(i)))
		}
	default:
		made.Set(v)
	}
	return made
}

// touched reports whether somebody has written behind a list of a value.
func touched(v reflect.Value) bool {
	switch v.Kind() {
	case reflect.Slice:
		for i := v.Len(); i < v.Cap(); i++ {
			if !v.Slice(0, v.Cap()).Index(i).IsZero() {
				return true
			}
		}
		for i := range v.Len() {
			if touched(v.Index(i)) {
				return true
			}
		}
	case reflect.Struct:
		for i := range v.NumField() {
			if touched(v.Field(i)) {
				return true
			}
		}
	}
	return false
}

// lists returns all lists in results, those within a list before it.
func lists(v reflect.Value) []reflect.Value {
	var all []reflect.Value
	switch v.Kind() {
	case reflect.Interface:
		return lists(v.Elem())
	case reflect.Slice:
		for i := range v.Len() {
			all = append(all, lists(v.Index(i))...)
		}
		if v.Type().Elem().Kind() != reflect.Interface {
			all = append(all, v)
		}
	case reflect.Struct:
		for i := range v.NumField() {
			all = append(all, lists(v.Field(i))...)
		}
	}
	return all
}

// hasLists reports whether there are lists within values of a type.
func hasLists(of reflect.Type) bool {
	if of.Kind() != reflect.Struct {
		return of.Kind() == reflect.Slice
	}
	for i := range of.NumField() {
		if hasLists(of.Field(i).Type) {
			return true
		}
	}
	return false
}

// scrawl overwrites all memory of a list, and of what is behind it.
func scrawl(list reflect.Value) {
	for i := range list.Cap() {
		list.Slice(0, list.Cap()).Index(i).Set(other(list.Type().Elem()))
	}
}

// other returns a value that stands in no result.
func other(of reflect.Type) reflect.Value {
	v := reflect.New(of).Elem()
	switch of.Kind() {
	case reflect.Int:
		v.SetInt(-99999)
	case reflect.String:
		v.SetString("\x00")
	case reflect.Struct:
		for i := range v.NumField() {
			v.Field(i).Set(other(v.Field(i).Type()))
		}
	}
	return v
}

// P0.1 and R4: no argument makes a function panic, the results depend on the
// arguments alone, and no argument is changed.
func TestAnyArguments(t *testing.T) {
	d := dice(80)
	for range 3000 {
		a := d.arguments()
		b := remade(a, 0)
		first := calls(a)
		if edition.Same(a.Volume, a.Other) != edition.Same(a.Other, a.Volume) || !edition.Same(a.Volume, b.Volume) {
			t.Fatalf("Same of %v and %v", a.Volume, a.Other)
		}
		if !same(a, b) {
			t.Fatalf("calls with %v change an argument", b)
		}
		if second := calls(a); !reflect.DeepEqual(first, second) {
			t.Fatalf("calls with %v give %v, then %v", a, first, second)
		}
	}
}

// P0.1: what is far above all limits.
func TestHugeArguments(t *testing.T) {
	many := many(2)
	many.List.Signs = make([]api.Sign, 1<<16)
	expectCheck(t, "many signs", many, api.ErrMany)
	long := example(t)
	long.Items[0].Title = strings.Repeat("x", 1<<24)
	expectCheck(t, "a long title", long, api.ErrTitle)
	items, e := edition.Drill(example(t), slices.Repeat([]int{0, 1, 2}, 1<<18))
	expectError(t, "Drill", items, e, api.ErrArg)
	v, e := edition.Select(example(t), slices.Repeat([]int{0}, 1<<20))
	expectError(t, "Select", v, e, api.ErrArg)
	v, e = edition.Renumber(example(t), slices.Repeat([]int{0}, 1<<20))
	expectError(t, "Renumber", v, e, api.ErrArg)
	expectLoad(t, "periods 1\n"+strings.Repeat("text a\n\n", 1<<18), 4, api.ErrTitle)
	expectLoad(t, strings.Repeat("periods 1\n", 1<<18), 0, api.ErrMany)
}

// R2: with an error every other result is its zero value, but for the line that is
// said with it.
func TestZeroWithError(t *testing.T) {
	d := dice(81)
	failed, passed := map[int]int{}, map[int]int{}
	n := 0
	for range 3000 {
		all := calls(d.arguments())
		n = len(all)
		for i, results := range all {
			last := len(results) - 1
			if results[last] == api.OK {
				passed[i]++
				continue
			}
			failed[i]++
			for _, r := range results[:last] {
				if !same(r, reflect.Zero(reflect.TypeOf(r)).Interface()) {
					t.Fatalf("call %d gives %v", i, results)
				}
			}
		}
	}
	for i := range n {
		if failed[i] < 100 || passed[i] < 100 {
			t.Errorf("call %d failed %d times and passed %d times", i, failed[i], passed[i])
		}
	}
}

// R3 and R4: nil lists and empty ones are the same in arguments, and nothing behind a
// list is changed.
func TestNilAndEmpty(t *testing.T) {
	d := dice(82)
	for range 1500 {
		a := bare(reflect.ValueOf(d.arguments())).Interface().(arguments)
		first := calls(a)
		for _, room := range []int{0, 3} {
			b := remade(a, room)
			second := calls(b)
			for i := range first {
				if !same(first[i], second[i]) {
					t.Fatalf("call %d with nil lists %v gives %v, with empty ones %v", i, a, first[i], second[i])
				}
			}
			if !edition.Same(a.Volume, b.Volume) {
				t.Fatalf("Same of %v with nil lists and with empty ones is false", a.Volume)
			}
			if touched(reflect.ValueOf(b)) {
				t.Fatalf("calls with %v write behind a list", a)
			}
		}
	}
}

// R4: what is written into a part of a result changes no argument and no other part.
func TestResultsAreNew(t *testing.T) {
	d := dice(83)
	for range 1000 {
		a := d.arguments()
		b := remade(a, 0)
		for i, results := range calls(a) {
			parts := lists(reflect.ValueOf(results))
			var want []any
			for _, part := range parts {
				want = append(want, remadeValue(part, 0).Interface())
			}
			for p, part := range parts {
				// A list that has lists within has changed with these, which come before it.
				if !hasLists(part.Type().Elem()) && !same(part.Interface(), want[p]) {
					t.Fatalf("the list %d of call %d shares memory with one before it", p, i)
				}
				scrawl(part)
			}
		}
		if !same(a, b) {
			t.Fatalf("a result of the calls with %v is part of an argument", b)
		}
	}
}

// P0.3: what is said of periods other than that of a call makes no difference.
func TestOtherPeriods(t *testing.T) {
	d := dice(84)
	for range 500 {
		v := d.volume(3)
		if len(v.Items) == 0 || len(v.List.Signs) == 0 {
			continue
		}
		period := 1 + d.below(v.List.Periods)
		w := remade(v, 0)
		for i, s := range w.List.Signs {
			w.List.Signs[i].Values = slices.DeleteFunc(s.Values, func(x api.Value) bool { return x.From > period || x.To < period })
		}
		sign, item := d.below(len(v.List.Signs)), d.below(len(v.Items))
		lines, e := edition.Concord(v, sign, 3, period)
		others, e2 := edition.Concord(w, sign, 3, period)
		expect(t, fmt.Sprint("Concord, ", e), others, e2, lines)
		lines, e = edition.Print(v, item, wide, period)
		others, e2 = edition.Print(w, item, wide, period)
		expect(t, fmt.Sprint("Print, ", e), others, e2, lines)
	}
}
