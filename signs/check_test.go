package signs_test

import (
	"strings"
	"testing"

	"ostracon/api"
	"ostracon/signs"
)

func expectCheck(t *testing.T, what string, l api.List, want api.Errno) {
	t.Helper()
	if e := signs.Check(l); e != want {
		t.Errorf("Check of %s = %d, want %d", what, e, want)
	}
}

// P1.1, 1: the number of signs, then that of periods.
func TestCheckList(t *testing.T) {
	expectCheck(t, "the example", parse(t, example), api.OK)
	expectCheck(t, "200 signs", many("S", 200), api.OK)
	expectCheck(t, "201 signs", many("S", 201), api.ErrMany)
	expectCheck(t, "no signs", api.List{Periods: 1}, api.OK)
	expectCheck(t, "an empty list of signs", api.List{Periods: 9, Signs: []api.Sign{}}, api.OK)
	for _, p := range []int{0, -1, 10, -1 << 63, 1<<63 - 1} {
		expectCheck(t, "periods out of bounds", api.List{Periods: p}, api.ErrPeriod)
	}
	l := many("S", 201)
	l.Periods = 0
	expectCheck(t, "too many signs and no period", l, api.ErrMany)
	l = broken()
	l.Periods = 10
	expectCheck(t, "ten periods and a wrong code", l, api.ErrPeriod)
}

// P1.1, 2: codes.
func TestCheckCode(t *testing.T) {
	for code, want := range map[string]api.Errno{
		"A": api.OK, "Z": api.OK, "Az09ZaZ9": api.OK, "ABCDEFGH": api.OK,
		"": api.ErrCode, "ABCDEFGHI": api.ErrCode, "a1": api.ErrCode, "1A": api.ErrCode, "@A": api.ErrCode, "[A": api.ErrCode,
		"A_": api.ErrCode, "A ": api.ErrCode, "A/": api.ErrCode, "A:": api.ErrCode, "A@": api.ErrCode, "A[": api.ErrCode, "A`": api.ErrCode, "A{": api.ErrCode,
		"A\x00": api.ErrCode, "Aé": api.ErrCode, "É": api.ErrCode, "A\xff": api.ErrCode, "A\n": api.ErrCode,
	} {
		expectCheck(t, "the code "+code, api.List{Periods: 1, Signs: []api.Sign{{Code: code, Wide: 1, High: 1}}}, want)
	}
	l := many("S", 3)
	l.Signs[2].Code = l.Signs[0].Code
	expectCheck(t, "a code that stands twice", l, api.ErrCode)
	l.Signs[2].Code = "s0"
	expectCheck(t, "a small letter first", l, api.ErrCode)
	l.Signs[0].Code, l.Signs[2].Code = "Sa", "SA"
	expectCheck(t, "codes with small and capital letters", l, api.OK)
}

// P1.1, 2: sizes.
func TestCheckSize(t *testing.T) {
	for size, want := range map[[2]int]api.Errno{
		{1, 1}: api.OK, {12, 12}: api.OK, {1, 12}: api.OK, {12, 1}: api.OK,
		{0, 1}: api.ErrSize, {1, 0}: api.ErrSize, {13, 1}: api.ErrSize, {1, 13}: api.ErrSize, {-1, 5}: api.ErrSize, {5, -1 << 63}: api.ErrSize,
	} {
		l := with(1)
		l.Signs[0].Wide, l.Signs[0].High = size[0], size[1]
		expectCheck(t, "a size", l, want)
	}
}

// P1.1, 2: values.
func TestCheckValues(t *testing.T) {
	one := func(kind int, text string, from, to int) api.List {
		return with(4, value(kind, text, from, to))
	}
	for kind, want := range map[int]api.Errno{0: api.ErrValue, 1: api.OK, 2: api.OK, 3: api.OK, 4: api.ErrValue, -1: api.ErrValue, 1 << 40: api.ErrValue} {
		expectCheck(t, "a kind", one(kind, "a", 1, 1), want)
	}
	for _, kind := range []int{api.Sound, api.Word, api.Class} {
		for _, text := range []string{"a", "z", "abcdefgh"} {
			expectCheck(t, "the text "+text, one(kind, text, 1, 1), api.OK)
		}
		for _, text := range []string{"", "abcdefghi", "a1", "a ", "a@", "a[", "a`", "a{", "é", "\x00", "a\xff", "a\n"} {
			expectCheck(t, "the text "+text, one(kind, text, 1, 1), api.ErrValue)
		}
	}
	for _, text := range []string{"A", "Z", "aB", "Ab"} {
		expectCheck(t, "the sound "+text, one(api.Sound, text, 1, 1), api.OK)
		expectCheck(t, "the word "+text, one(api.Word, text, 1, 1), api.OK)
		expectCheck(t, "the class "+text, one(api.Class, text, 1, 1), api.ErrValue)
	}
	for use, want := range map[[2]int]api.Errno{
		{1, 4}: api.OK, {4, 4}: api.OK, {1, 1}: api.OK,
		{0, 1}: api.ErrPeriod, {1, 5}: api.ErrPeriod, {3, 2}: api.ErrPeriod, {5, 5}: api.ErrPeriod, {-1, -1}: api.ErrPeriod, {-1 << 63, 1<<63 - 1}: api.ErrPeriod,
	} {
		expectCheck(t, "the periods of a value", one(1, "a", use[0], use[1]), want)
	}
}

// P1.1, 2: at most twelve values, which do not collide.
func TestCheckCollision(t *testing.T) {
	l := with(9)
	for _, text := range letters(12) {
		l.Signs[0].Values = append(l.Signs[0].Values, value(1, text, 1, 1))
	}
	expectCheck(t, "twelve values", l, api.OK)
	l.Signs[0].Values = append(l.Signs[0].Values, value(1, "zz", 1, 1))
	expectCheck(t, "thirteen values", l, api.ErrMany)

	a := value(1, "a", 3, 5)
	for _, b := range []api.Value{value(1, "a", 3, 5), value(1, "a", 5, 6), value(1, "a", 1, 3), value(1, "a", 4, 4), value(1, "a", 1, 9)} {
		expectCheck(t, "values that collide", with(9, a, value(2, "x", 1, 9), b), api.ErrValue)
	}
	for _, b := range []api.Value{value(2, "a", 3, 5), value(3, "a", 3, 5), value(1, "A", 3, 5), value(1, "ab", 3, 5), value(1, "a", 1, 2), value(1, "a", 6, 9)} {
		expectCheck(t, "values that do not collide", with(9, a, b), api.OK)
	}
	l = parse(t, "periods 1\nA1 1x1 s:a@1-1\nB2 1x1 s:a@1-1\n")
	expectCheck(t, "equal values of two signs", l, api.OK)
}

// P1.1 and R1: the first sign with an error decides, and of its errors the one named first.
func TestCheckOrder(t *testing.T) {
	good := value(1, "a", 1, 1)
	badPeriod := value(1, "b", 1, 2)
	badText := value(1, "", 1, 2)
	twelve := make([]api.Value, 12)
	for _, c := range []struct {
		what  string
		signs []api.Sign
		want  api.Errno
	}{
		{"code before size", []api.Sign{{Code: "a", Wide: 0, High: 0, Values: append(twelve, good)}}, api.ErrCode},
		{"size before the number of values", []api.Sign{{Code: "A", Wide: 0, High: 1, Values: append(twelve, good)}}, api.ErrSize},
		{"the number of values before values", []api.Sign{{Code: "A", Wide: 1, High: 1, Values: append(twelve, good)}}, api.ErrMany},
		{"the text before the periods", []api.Sign{{Code: "A", Wide: 1, High: 1, Values: []api.Value{badText}}}, api.ErrValue},
		{"the first value", []api.Sign{{Code: "A", Wide: 1, High: 1, Values: []api.Value{badPeriod, badText}}}, api.ErrPeriod},
		{"periods before a collision", []api.Sign{{Code: "A", Wide: 1, High: 1, Values: []api.Value{good, value(1, "a", 1, 2)}}}, api.ErrPeriod},
		{"a collision before the next value", []api.Sign{{Code: "A", Wide: 1, High: 1, Values: []api.Value{good, good, badPeriod}}}, api.ErrValue},
		{"the first sign", []api.Sign{{Code: "A", Wide: 1, High: 1, Values: []api.Value{badPeriod}}, {Code: "a"}}, api.ErrPeriod},
		{"a code that stands twice before its size", []api.Sign{{Code: "A", Wide: 1, High: 1}, {Code: "A"}}, api.ErrCode},
		{"a wrong sign before a code that stands twice", []api.Sign{{Code: "A", Wide: 1}, {Code: "A", Wide: 1, High: 1}}, api.ErrSize},
	} {
		expectCheck(t, c.what, api.List{Periods: 1, Signs: c.signs}, c.want)
	}
	expectCheck(t, "a long code", api.List{Periods: 1, Signs: []api.Sign{{Code: strings.Repeat("A", 1<<20), Wide: 1, High: 1}}}, api.ErrCode)
}

// R3: a nil list and an empty list are the same value.
func TestCheckNil(t *testing.T) {
	expectCheck(t, "nil values", with(1), api.OK)
	expectCheck(t, "empty values", with(1, []api.Value{}...), api.OK)
	expectCheck(t, "the zero list", api.List{}, api.ErrPeriod)
}
