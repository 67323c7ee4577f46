package signs_test

import (
	"reflect"
	"strconv"
	"strings"
	"testing"

	"ostracon/api"
	"ostracon/signs"
)

// example is the list of the chapter's section Examples.
const example = "periods 2\nA1 4x6 s:nfr@1-2 w:nfr@1-1\nB2 3x3 = s:nfr@2-2\nC3 6x2 c:man@1-2\n"

func parse(t *testing.T, text string) api.List {
	t.Helper()
	l, line, e := signs.Parse(text)
	if e != api.OK || line != 0 {
		t.Fatalf("Parse(%q): line %d, error %d", text, line, e)
	}
	return l
}

func format(t *testing.T, l api.List) string {
	t.Helper()
	s, e := signs.Format(l)
	if e != api.OK {
		t.Fatalf("Format(%v): error %d", l, e)
	}
	return s
}

func clone(l api.List) api.List {
	c := api.List{Periods: l.Periods, Signs: append([]api.Sign(nil), l.Signs...)}
	for i := range c.Signs {
		c.Signs[i].Values = append([]api.Value(nil), c.Signs[i].Values...)
	}
	return c
}

// broken is a list whose error of Check no other error of a function has.
func broken() api.List {
	return api.List{Periods: 1, Signs: []api.Sign{{Code: "a", Wide: 1, High: 1}}}
}

// many is a valid list with n signs of the same size.
func many(prefix string, n int) api.List {
	l := api.List{Periods: 1}
	for i := range n {
		l.Signs = append(l.Signs, api.Sign{Code: prefix + strconv.Itoa(i), Wide: 1, High: 1})
	}
	return l
}

func value(kind int, text string, from, to int) api.Value {
	return api.Value{Kind: kind, Text: text, From: from, To: to}
}

// with is a list with one sign that has these values.
func with(periods int, values ...api.Value) api.List {
	return api.List{Periods: periods, Signs: []api.Sign{{Code: "A1", Wide: 1, High: 1, Values: values}}}
}

// letters are n different texts of one sound each.
func letters(n int) []string {
	return strings.Split("abcdefghijklmnopqrstuvwxyzABCDEFGHIJKLMNOPQRSTUVWXYZ"[:n], "")
}

// dice give a fixed series of numbers, so that every run of the tests is alike.
type dice uint64

func (d *dice) below(n int) int {
	*d = *d*6364136223846793005 + 1442695040888963407
	return int(uint64(*d)>>33) % n
}

// roll returns a valid list that has few codes and texts, so that they often meet.
func (d *dice) roll() api.List {
	l := api.List{Periods: 1 + d.below(api.MaxPeriods)}
	for _, code := range []string{"A", "A1", "Bb2", "C", "D9z"} {
		if d.below(4) == 0 {
			continue
		}
		s := api.Sign{Code: code, Wide: len(code), High: 4, Even: code == "C"}
		for range d.below(api.MaxValues + 1) {
			v := d.value(l.Periods)
			s.Values = append(s.Values, v)
			if signs.Check(api.List{Periods: l.Periods, Signs: []api.Sign{s}}) != api.OK {
				s.Values = s.Values[:len(s.Values)-1]
			}
		}
		at := d.below(len(l.Signs) + 1)
		l.Signs = append(l.Signs[:at:at], append([]api.Sign{s}, l.Signs[at:]...)...)
	}
	return l
}

func (d *dice) value(periods int) api.Value {
	v := api.Value{Kind: 1 + d.below(3), Text: []string{"a", "ab", "b"}[d.below(3)]}
	v.From = 1 + d.below(periods)
	v.To = min(periods, v.From+d.below(3))
	return v
}

// wild returns a list that need not be valid in any way.
func (d *dice) wild() api.List {
	l := api.List{Periods: d.number()}
	for range d.below(4) {
		s := api.Sign{Code: d.text(), Wide: d.number(), High: d.number(), Even: d.below(2) == 0}
		for range d.below(4) {
			s.Values = append(s.Values, api.Value{Kind: d.number(), Text: d.text(), From: d.number(), To: d.number()})
		}
		l.Signs = append(l.Signs, s)
	}
	return l
}

func (d *dice) number() int {
	numbers := []int{0, 1, 2, 3, 4, 9, 10, 12, 13, 201, -1, -1 << 63, 1<<63 - 1}
	return numbers[d.below(len(numbers))]
}

func (d *dice) text() string {
	texts := []string{"", "A1", "B", "a", "nfr", "nfr2", "nfr0", "\x00", "\xff\xfe", "é", "A1 ", "@", ":", "\n", strings.Repeat("a", 9), strings.Repeat("9", 400)}
	return texts[d.below(len(texts))]
}

// listed are the results of a call in a form that can be compared, nil lists as empty ones.
func listed(results ...any) []any {
	for i, r := range results {
		if l, ok := r.(api.List); ok {
			results[i] = clone(l)
		} else if v := reflect.ValueOf(r); v.Kind() == reflect.Slice && v.Len() == 0 {
			results[i] = nil
		}
	}
	return results
}
