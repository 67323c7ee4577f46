package annals_test

import (
	"math"
	"reflect"
	"slices"
	"testing"

	"ostracon/annals"
	"ostracon/api"
)

// P11.15
func TestEarliestAndLatestAreSolutions(t *testing.T) {
	d := dice(90)
	seen := 0
	for range 1000 {
		a := d.annals(15, 30)
		earliest, e := annals.Earliest(a)
		latest, e2 := annals.Latest(a)
		if e != e2 {
			t.Fatalf("Earliest of %v: %d, Latest: %d", a, e, e2)
		}
		if e != api.OK {
			continue
		}
		seen++
		for _, years := range [][]int{earliest, latest} {
			at, e := annals.Holds(a, years)
			expect(t, "Holds", at, e, 0)
		}
		years := make([]int, len(a.Points))
		for p := range years {
			years[p] = d.between(-api.MaxYear, d.between(-api.MaxYear, api.MaxYear))
		}
		solution, ok := raised(years, claims(a)...)
		for p := range solution {
			if ok && (solution[p] < earliest[p] || solution[p] > latest[p]) {
				t.Fatalf("%v is a solution of %v, but it is not from %v to %v", solution, a, earliest, latest)
			}
		}
	}
	if seen < 300 {
		t.Errorf("only %d annals are sound", seen)
	}
}

// P11.15
func TestBetweenIsAttained(t *testing.T) {
	d := dice(91)
	seen := 0
	for range 1500 {
		a := d.annals(8, 14)
		if len(a.Points) == 0 {
			continue
		}
		from, to := d.below(len(a.Points)), d.below(len(a.Points))
		got, e := between(a, from, to)
		if e != api.OK {
			continue
		}
		seen++
		back, e := between(a, to, from)
		expect(t, "Between the other way", back, e, span{-got.High, -got.Low})
		for _, c := range []claim{{from, to, got.High}, {to, from, -got.Low}} {
			years, ok := raised(first(len(a.Points)), append(claims(a), c)...)
			if !ok {
				t.Fatalf("no solution of %v has %v", a, c)
			}
			at, e := annals.Holds(a, years)
			expect(t, "Holds", at, e, 0)
			if years[c.to]-years[c.from] != c.least {
				t.Fatalf("%v is a solution of %v, but Between is %v", years, a, got)
			}
		}
		if from == to && got != (span{}) {
			t.Fatalf("Between a point and itself is %v", got)
		}
	}
	if seen < 500 {
		t.Errorf("only %d annals are sound", seen)
	}
}

// P11.17
func TestOneMoreFact(t *testing.T) {
	d := dice(92)
	unsound, narrower := 0, 0
	for range 2500 {
		a := d.annals(7, 10)
		if is, _ := annals.Sound(a); !is || len(a.Points) < 2 {
			continue
		}
		from, to := d.two(len(a.Points))
		allowed, e := between(a, from, to)
		low := allowed.High + d.between(-3, 1)
		high := low + d.below(3)
		if d.below(2) == 0 {
			high = allowed.Low + d.between(-1, 3)
			low = high - d.below(3)
		}
		if e != api.OK || low < -api.MaxYear || high > api.MaxYear {
			continue
		}
		b := plus(a, fact(from, to, low, high))
		is, e := annals.Sound(b)
		expect(t, "Sound with one more fact", is, e, low <= allowed.High && high >= allowed.Low)
		if !is {
			unsound++
			continue
		}
		one, two := d.below(len(a.Points)), d.below(len(a.Points))
		was, e := between(a, one, two)
		now, e2 := between(b, one, two)
		if e != api.OK || e2 != api.OK || now.Low < was.Low || now.High > was.High {
			t.Fatalf("Between of %v was %v, and is %v with %v", a, was, now, b.Facts[len(a.Facts)])
		}
		if was != now {
			narrower++
		}
	}
	if unsound < 100 || narrower < 100 {
		t.Errorf("%d facts are excluded, %d make a bound narrower", unsound, narrower)
	}
}

// Facts in another order, and points with other names, have the same solutions.
func TestOrderOfFacts(t *testing.T) {
	d := dice(93)
	for range 500 {
		a := d.annals(8, 14)
		b := a
		b.Facts, b.Points = nil, nil
		for _, i := range d.shuffled(len(a.Facts)) {
			f := a.Facts[i]
			if d.below(2) == 0 {
				f = fact(f.To, f.From, -f.High, -f.Low)
			}
			b.Facts = append(b.Facts, f)
		}
		for _, name := range a.Points {
			b.Points = append(b.Points, "X"+name)
		}
		x, e := annals.Earliest(a)
		y, e2 := annals.Earliest(b)
		if e != e2 || !same(x, y) {
			t.Fatalf("Earliest of %v = %v, %d, of %v = %v, %d", a, x, e, b, y, e2)
		}
	}
}

// arguments are those of all functions of the package.
type arguments struct {
	Annals          api.Annals
	Years           []int
	From, To, High  int
	One, Two, Year  int
	Regnal          api.Regnal
	Text            string
	Ledger          api.Ledger
	Amounts         []int
	Worth           int
	Kin             api.Kin
	Person, Another int
}

// number returns a number that often is out of some bounds.
func (d *dice) number() int {
	numbers := []int{0, 1, 2, 3, 5, 6, 7, 30, 31, 60, 61, 100, 101, 200, 201, 9999, 10000, 10001, 20000, 20001, 1000000, 1000001, -1, -2, -10000, -10001, -20000, -20001, math.MinInt, math.MinInt + 1, math.MaxInt - 1, math.MaxInt}
	return numbers[d.below(len(numbers))]
}

// arguments returns arguments that are valid in many cases.
func (d *dice) arguments() arguments {
	a := arguments{Annals: d.annals(6, 8), Ledger: d.ledger(9, true), Kin: d.kin(7, 8)}
	a.From, a.To, a.High = d.below(6), d.below(6), d.between(-30, 30)
	a.One, a.Two = d.below(4), d.below(4)
	a.Year, a.Regnal = d.between(-10, 10), api.Regnal{Reign: d.below(4), Year: d.between(1, 4)}
	a.Worth, a.Person, a.Another = d.below(1000), d.below(7), d.below(7)
	if years, e := annals.Latest(a.Annals); e == api.OK && d.below(4) > 0 {
		a.Years, a.Year = years, api.MaxYear-d.below(10)
	}
	if s, e := annals.Format(a.Annals); e == api.OK {
		a.Text = s
	}
	for range a.Ledger.Units {
		a.Amounts = append(a.Amounts, d.below(9))
	}
	d.upset(&a)
	return a
}

// upset makes arguments not valid in some cases.
func (d *dice) upset(a *arguments) {
	switch d.below(16) {
	case 0:
		a.Annals.Points = append(a.Annals.Points, "a b")
	case 1:
		a.Annals.Facts = append(a.Annals.Facts, fact(d.number(), d.number(), d.number(), d.number()))
	case 2:
		a.Annals.Reigns = append(a.Annals.Reigns, reign("A", d.number(), d.number()))
	case 3:
		a.Annals.Facts = slices.Repeat(a.Annals.Facts, 1+d.below(80))
	case 4:
		a.Years = append(a.Years, d.number())
	case 5:
		a.From, a.To, a.High = d.number(), d.number(), d.number()
	case 6:
		a.One, a.Two, a.Year = d.number(), d.number(), d.number()
	case 7:
		a.Regnal = api.Regnal{Reign: d.number(), Year: d.number()}
	case 8:
		a.Text = a.Text[:len(a.Text)/2] + a.Text[d.below(len(a.Text)+1):]
	case 9:
		a.Ledger.Units = append(a.Ledger.Units, d.number())
	case 10:
		a.Ledger.Rows = append(a.Ledger.Rows, row(d.number(), d.number(), d.number(), d.number()))
	case 11:
		a.Amounts, a.Worth = append(a.Amounts, d.number()), d.number()
	case 12:
		a.Kin = kin(d.number(), bond(d.number(), d.number()))
	case 13:
		a.Kin.Bonds = append(a.Kin.Bonds, bond(0, 1), bond(1, 0))
	case 14:
		a.Person, a.Another = d.number(), d.number()
	case 15:
		a.Text, a.Ledger.Rows = string([]byte{byte(d.below(256)), byte(d.below(256)), '\n'}), slices.Repeat(a.Ledger.Rows, 40)
	}
}

// calls are the results of all functions of the package.
func calls(a arguments) [][]any {
	var all [][]any
	add := func(results ...any) { all = append(all, results) }
	add(annals.Check(a.Annals))
	sound, e := annals.Sound(a.Annals)
	add(sound, e)
	earliest, e := annals.Earliest(a.Annals)
	add(earliest, e)
	latest, e := annals.Latest(a.Annals)
	add(latest, e)
	low, high, e := annals.Between(a.Annals, a.From, a.To)
	add(low, high, e)
	facts, e := annals.Conflict(a.Annals)
	add(facts, e)
	proof, e := annals.Why(a.Annals, a.From, a.To, a.High)
	add(proof, e)
	meet, e := annals.Meet(a.Annals, a.One, a.Two)
	add(meet, e)
	regnal, e := annals.Regnal(a.Annals, a.Years, a.Year)
	add(regnal, e)
	dated, e := annals.Dated(a.Annals, a.Years, a.Regnal)
	add(dated, e)
	text, e := annals.Format(a.Annals)
	add(text, e)
	worth, e := annals.Worth(a.Ledger, a.Amounts)
	add(worth, e)
	amounts, e := annals.Carry(a.Ledger, a.Worth)
	add(amounts, e)
	wrong, e := annals.Audit(a.Ledger)
	add(wrong, e)
	order, e := annals.Order(a.Kin)
	add(order, e)
	up, down, e := annals.Kinship(a.Kin, a.Person, a.Another)
	add(up, down, e)
	return append(all, located(a)...)
}

// located are the results of the functions that return a place with an error.
func located(a arguments) [][]any {
	at, e := annals.Holds(a.Annals, a.Years)
	if e == api.ErrConflict {
		at = 0
	}
	parsed, line, e2 := annals.Parse(a.Text)
	if e2 == api.ErrForm {
		line = 0
	}
	return [][]any{{at, e}, {parsed, line, e2}}
}

// remade returns an equal value whose lists are new and not nil, with room for
// some more elements behind each.
func remade[T any](x T, room int) T {
	return remadeValue(reflect.ValueOf(x), room).Interface().(T)
}

func remadeValue(v reflect.Value, room int) reflect.Value {
	switch v.Kind() {
	case reflect.Slice:
		list := reflect.MakeSlice(v.Type(), v.Len(), v.Len()+room)
		for i := range v.Len() {
			list.Index(i).Set(remadeValue(v.Index(i), room))
		}
		return list
	case reflect.Struct:
		made := reflect.New(v.Type()).Elem()
		for i := range v.NumField() {
			made.Field(i).Set(remadeValue(v.Field(i), room))
		}
		return made
	}
	return v
}

// touched reports whether somebody has written behind a list of a value.
func touched(v reflect.Value) bool {
	switch v.Kind() {
	case reflect.Slice:
		for i := v.Len(); i < v.Cap(); i++ {
			if !v.Slice(0, v.Cap()).Index(i).IsZero() {
				return true
			}
		}
		for i := range v.Len() {
			if touched(v.Index(i)) {
				return true
			}
		}
	case reflect.Struct:
		for i := range v.NumField() {
			if touched(v.Field(i)) {
				return true
			}
		}
	}
	return false
}

// lists returns all lists in results.
func lists(v reflect.Value) []reflect.Value {
	var all []reflect.Value
	switch v.Kind() {
	case reflect.Interface:
		return lists(v.Elem())
	case reflect.Slice:
		if v.Type().Elem().Kind() != reflect.Interface {
			return []reflect.Value{v}
		}
		for i := range v.Len() {
			all = append(all, lists(v.Index(i))...)
		}
	case reflect.Struct:
		for i := range v.NumField() {
			all = append(all, lists(v.Field(i))...)
		}
	}
	return all
}

// scrawl overwrites all memory of a list, and of what is behind it.
func scrawl(list reflect.Value) {
	for i := range list.Cap() {
		list.Slice(0, list.Cap()).Index(i).Set(other(list.Type().Elem()))
	}
}

// other returns a value that stands in no result.
func other(of reflect.Type) reflect.Value {
	v := reflect.New(of).Elem()
	switch of.Kind() {
	case reflect.Int:
		v.SetInt(-99999)
	case reflect.String:
		v.SetString("-")
	case reflect.Struct:
		for i := range v.NumField() {
			v.Field(i).Set(other(v.Field(i).Type()))
		}
	}
	return v
}

// P0.1 and R4: no argument makes a function panic, the results depend on the
// arguments alone, and no argument is changed.
func TestAnyArguments(t *testing.T) {
	d := dice(94)
	for range 4000 {
		a := d.arguments()
		b := remade(a, 0)
		first := calls(a)
		if !same(a, b) {
			t.Fatalf("calls with %v change an argument", b)
		}
		if second := calls(a); !reflect.DeepEqual(first, second) {
			t.Fatalf("calls with %v give %v, then %v", a, first, second)
		}
	}
}

// R2: with an error every other result is its zero value, but for the fact and the
// line that are said with it.
func TestZeroWithError(t *testing.T) {
	d := dice(95)
	failed, passed := map[int]int{}, map[int]int{}
	n := 0
	for range 4000 {
		all := calls(d.arguments())
		n = len(all)
		for i, results := range all {
			last := len(results) - 1
			if results[last] == api.OK {
				passed[i]++
				continue
			}
			failed[i]++
			for _, r := range results[:last] {
				if !same(r, reflect.Zero(reflect.TypeOf(r)).Interface()) {
					t.Fatalf("call %d gives %v", i, results)
				}
			}
		}
	}
	for i := range n {
		if failed[i] < 100 || passed[i] < 100 {
			t.Errorf("call %d failed %d times and passed %d times", i, failed[i], passed[i])
		}
	}
}

// R3 and R4: nil lists and empty ones are the same in arguments, and nothing behind
// a list is changed.
func TestNilAndEmpty(t *testing.T) {
	d := dice(96)
	for range 2000 {
		a := d.arguments()
		switch d.below(6) {
		case 0:
			a.Annals.Points, a.Years, a.Kin.Bonds = nil, nil, nil
		case 1:
			a.Annals.Facts, a.Ledger.Rows = nil, nil
		case 2:
			a.Annals.Reigns, a.Ledger.Units, a.Amounts = nil, nil, nil
		case 3:
			a.Annals, a.Kin = api.Annals{}, api.Kin{}
		}
		first := calls(a)
		for _, room := range []int{0, 3} {
			b := remade(a, room)
			second := calls(b)
			for i := range first {
				if !same(first[i], second[i]) {
					t.Fatalf("call %d with nil lists %v gives %v, with empty ones %v", i, a, first[i], second[i])
				}
			}
			if touched(reflect.ValueOf(b)) {
				t.Fatalf("calls with %v write behind a list", a)
			}
		}
	}
}

// R4: what is written into a part of a result changes no argument and no other
// part.
func TestResultsAreNew(t *testing.T) {
	d := dice(97)
	for range 1500 {
		a := d.arguments()
		b := remade(a, 0)
		for i, results := range calls(a) {
			parts := lists(reflect.ValueOf(results))
			var want []any
			for _, part := range parts {
				want = append(want, remadeValue(part, 0).Interface())
			}
			for p, part := range parts {
				if !same(part.Interface(), want[p]) {
					t.Fatalf("the list %d of call %d shares memory with one before it", p, i)
				}
				scrawl(part)
			}
		}
		if !same(a, b) {
			t.Fatalf("a result of the calls with %v is part of an argument", b)
		}
	}
}
