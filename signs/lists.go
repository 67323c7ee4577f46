package signs

import (
	"cmp"
	"slices"

	"ostracon/api"
)

// Tidy returns a list with the values of each sign merged and sorted.
func Tidy(l api.List) (api.List, api.Errno) {
	if e := Check(l); e != api.OK {
		return api.List{}, e
	}
	out := slices.Clone(l.Signs)
	for i := range out {
		out[i].Values = tidy(out[i].Values)
	}
	return api.List{Periods: l.Periods, Signs: out}, api.OK
}

// tidy returns values sorted, those with the same meaning joined where the
// periods of one meet or follow those of the other.
func tidy(values []api.Value) []api.Value {
	sorted := slices.Clone(values)
	slices.SortFunc(sorted, order)
	var out []api.Value
	for _, v := range sorted {
		last := len(out) - 1
		if last >= 0 && meaningOf(out[last]) == meaningOf(v) && v.From <= out[last].To+1 {
			out[last].To = max(out[last].To, v.To)
			continue
		}
		out = append(out, v)
	}
	return out
}

func order(a, b api.Value) int {
	if a.Kind != b.Kind {
		return cmp.Compare(a.Kind, b.Kind)
	}
	if a.Text != b.Text {
		return cmp.Compare(a.Text, b.Text)
	}
	return cmp.Compare(a.From, b.From)
}

// Restrict returns a list as it is in one period.
func Restrict(l api.List, period int) (api.List, api.Errno) {
	if e := Check(l); e != api.OK {
		return api.List{}, e
	}
	if !within(period, l.Periods) {
		return api.List{}, api.ErrPeriod
	}
	out := slices.Clone(l.Signs)
	for i := range out {
		out[i].Values = valuesIn(out[i].Values, period)
		for j := range out[i].Values {
			out[i].Values[j].From = 1
			out[i].Values[j].To = 1
		}
	}
	return api.List{Periods: 1, Signs: out}, api.OK
}

// Merge returns two lists as one.
func Merge(a, b api.List) (api.List, api.Errno) {
	if e := Check(a); e != api.OK {
		return api.List{}, e
	}
	if e := Check(b); e != api.OK {
		return api.List{}, e
	}
	common := numbers(a.Signs)
	for _, s := range b.Signs {
		if i, ok := common[s.Code]; ok && !sameShape(a.Signs[i], s) {
			return api.List{}, api.ErrSize
		}
	}
	m := api.List{Periods: max(a.Periods, b.Periods), Signs: union(a.Signs, b.Signs)}
	// The one error that the union of valid lists can have is that it is too large.
	if e := Check(m); e != api.OK {
		return api.List{}, e
	}
	return m, api.OK
}

// union returns the signs of a and the other ones of b, with the values that
// they have in either.
func union(a, b []api.Sign) []api.Sign {
	common := numbers(a)
	out := slices.Clone(a)
	for _, s := range b {
		if i, ok := common[s.Code]; ok {
			out[i].Values = slices.Concat(out[i].Values, s.Values)
		} else {
			out = append(out, s)
		}
	}
	for i := range out {
		out[i].Values = tidy(out[i].Values)
	}
	return out
}

// Same reports whether two lists are equal.
func Same(a, b api.List) bool {
	return a.Periods == b.Periods && slices.EqualFunc(a.Signs, b.Signs, sameSign)
}

func sameSign(a, b api.Sign) bool {
	return a.Code == b.Code && sameShape(a, b) && slices.Equal(a.Values, b.Values)
}

func sameShape(a, b api.Sign) bool {
	return a.Wide == b.Wide && a.High == b.High && a.Even == b.Even
}
