package edition_test

import (
	"fmt"
	"math"
	"slices"
	"strings"
	"testing"

	"ostracon/api"
	"ostracon/code"
	"ostracon/edition"
	"ostracon/grid"
	"ostracon/groups"
)

var wide = api.Page{Way: 1, Length: api.MaxPage}

// values is a list whose signs have values of all kinds in three periods.
const values = "periods 3\n" +
	"A1 12x12 w:a@1-3 c:b@1-3 s:ab@2-3 s:a@1-3\n" +
	"B2 6x3 s:a@1-1 s:ab@1-3\n" +
	"C3 4x4 w:a@1-3 s:a@3-3\n" +
	"D4 4x4\n"

// P12.5 and P12.6: the words of marks.
func TestWords(t *testing.T) {
	v := volume(t, values, "a", "A1-B2-C3-D4-{0-9}-{3-3}", "b", `A1#-A1=-A1!-D4#-D4=-D4!-{1-2}-A1\/1-D4\/3`)
	for period, want := range map[int]string{
		1: "a-a2-C3-D4-[0-9]-[3-3]",
		2: "ab-ab2-C3-D4-[0-9]-[3-3]",
		3: "ab-ab2-a2-D4-[0-9]-[3-3]",
	} {
		s, e := edition.Print(v, 0, wide, period)
		expect(t, "Print", s, e, []string{"1 A1-B2-C3-D4-{0-9}-{3-3}  " + want})
	}
	s, e := edition.Print(v, 1, wide, 1)
	expect(t, "Print", s, e, []string{`1 A1#-A1=-A1!-D4#-D4=-D4!-{1-2}-A1\/1-D4\/3  (a)-<a>-{a}-(D4)-<D4>-{D4}-[1-2]-a-D4`})
	s, e = edition.Concord(v, 3, 10, 2)
	expect(t, "Concord", s, e, []string{
		"a:3 ab ab2 C3 *D4* [0-9] [3-3]",
		"b:3 (ab) <ab> {ab} *(D4)* <D4> {D4} [1-2] ab D4",
		"b:4 (ab) <ab> {ab} (D4) *<D4>* {D4} [1-2] ab D4",
		"b:5 (ab) <ab> {ab} (D4) <D4> *{D4}* [1-2] ab D4",
		"b:8 (ab) <ab> {ab} (D4) <D4> {D4} [1-2] ab *D4*",
	})
}

// P12.5 and P12.6: the name of a sign counts all signs that have the sound.
func TestWordsOfManyBearers(t *testing.T) {
	list := "periods 1\n"
	for i := range api.MaxSigns {
		list += fmt.Sprintf("S%d 1x1 s:n@1-1 s:m@1-1\n", i)
	}
	v := volume(t, list, "a", "S199-S0-S1-S9-S99")
	s, e := edition.Print(v, 0, wide, 1)
	expect(t, "Print", s, e, []string{"1 S199-S0-S1-S9-S99  n200-n-n2-n10-n100"})
}

// P12.5
func TestConcord(t *testing.T) {
	s, e := edition.Concord(example(t), 1, 1, 1)
	expect(t, "Concord", s, e, []string{"one:1 nfr *nfr2* C3", "two:0 *(nfr2)* [1-2]"})
	v := volume(t, "periods 1\nA 1x1\nB 1x1\nC 1x1\nD 1x1\nE 1x1\n", "x  y", "A-B-C-D-C-B-A-A", ": *", "[A;B]", "no", "C-{1-1}")
	for wide, want := range [][]string{
		{"x  y:0 *A*", "x  y:6 *A*", "x  y:7 *A*", ": *:1 *A*"},
		{"x  y:0 *A* B", "x  y:6 B *A* A", "x  y:7 A *A*", ": *:1 B *A*"},
		{"x  y:0 *A* B C", "x  y:6 C B *A* A", "x  y:7 B A *A*", ": *:1 B *A*"},
		{"x  y:0 *A* B C D", "x  y:6 D C B *A* A", "x  y:7 C B A *A*", ": *:1 B *A*"},
	} {
		s, e := edition.Concord(v, 0, wide, 1)
		expect(t, fmt.Sprint("Concord with ", wide), s, e, want)
	}
	s, e = edition.Concord(v, 3, 2, 1)
	expect(t, "Concord", s, e, []string{"x  y:3 B C *D* C B"})
	s, e = edition.Concord(v, 4, 10, 1)
	expect(t, "Concord of a sign that stands nowhere", s, e, nil)
	long := volume(t, "periods 1\nA 1x1\nB 1x1\n", "a", strings.Repeat("B-", 15)+"A"+strings.Repeat("-B", 15))
	s, e = edition.Concord(long, 0, api.MaxContext, 1)
	expect(t, "Concord", s, e, []string{"a:15 " + strings.Repeat("B ", 10) + "*A*" + strings.Repeat(" B", 10)})
}

// P12.5: errors, in their order.
func TestConcordErrors(t *testing.T) {
	v := volume(t, values, "a", "A1")
	for _, c := range []struct {
		v                  api.Volume
		sign, wide, period int
		want               api.Errno
	}{
		{v, 3, 10, 3, api.OK}, {v, 0, 0, 1, api.OK},
		{v, -1, 0, 1, api.ErrArg}, {v, 4, 0, 1, api.ErrArg}, {v, math.MaxInt, 0, 1, api.ErrArg}, {v, math.MinInt, 0, 1, api.ErrArg},
		{v, 0, -1, 1, api.ErrArg}, {v, 0, 11, 1, api.ErrArg}, {v, 0, math.MaxInt, 1, api.ErrArg}, {v, 0, math.MinInt, 1, api.ErrArg},
		{v, 0, 0, 0, api.ErrPeriod}, {v, 0, 0, 4, api.ErrPeriod}, {v, 0, 10, -1, api.ErrPeriod}, {v, 0, 0, math.MaxInt, api.ErrPeriod},
		{v, 4, 0, 0, api.ErrArg}, {v, 0, 11, 0, api.ErrArg}, {v, -1, -1, 4, api.ErrArg},
		{broken(), -1, -1, 0, api.ErrDepth},
	} {
		s, e := edition.Concord(c.v, c.sign, c.wide, c.period)
		if e != c.want || e != api.OK && len(s) > 0 {
			t.Errorf("Concord of %d, %d, %d = %v, %d, want %d", c.sign, c.wide, c.period, s, e, c.want)
		}
	}
}

// P12.6
func TestPrint(t *testing.T) {
	const text = `A1-B2:C3*D4-<[B2;C3&D4]>-[A1;B2;C3]-{1-2}-A1\/1#-C3*(D4:D4)`
	v := volume(t, exampleList+"D4 4x4\n", "first", "B2", "second", text, "empty", "")
	for _, c := range []struct {
		item int
		page api.Page
		want []string
	}{
		{0, wide, []string{"1 B2  nfr2"}},
		{1, wide, []string{"1 " + text + "  nfr-nfr2-C3-D4-C3-D4-nfr2-nfr2-C3-nfr-[1-2]-(nfr)-C3-D4-D4"}},
		{1, api.Page{Way: 1, Length: 48}, []string{
			"1 A1  nfr", "2 B2:C3*D4  nfr2-C3-D4", "3 <[B2;C3&D4]>  C3-D4-nfr2", "4 [A1;B2;C3]  nfr2-C3-nfr", "5 {1-2}  [1-2]", `6 A1\/1#  (nfr)`, "7 C3*(D4:D4)  C3-D4-D4",
		}},
		{2, wide, nil},
		{2, api.Page{Way: 4, Length: 48}, nil},
	} {
		s, e := edition.Print(v, c.item, c.page, 1)
		expect(t, "Print", s, e, c.want)
	}
	// Of lines with several groups each; the numbers of lines become longer.
	v = volume(t, "periods 1\nA 12x12\nB 12x12 s:b@1-1\n", "a", strings.Repeat("A-B-", 11)+"A")
	for way := 1; way <= 4; way++ {
		s, e := edition.Print(v, 0, api.Page{Way: way, Length: 48 + 24 + 48}, 1)
		var want []string
		for i := range 11 {
			want = append(want, fmt.Sprint(i+1, " A-B  A-b"))
		}
		expect(t, "Print", s, e, append(want, "12 A  A"))
	}
	// A column is filled by the height of its groups, a row by their width.
	v = volume(t, "periods 1\nA 12x1\n", "a", "A-A-A")
	s, e := edition.Print(v, 0, api.Page{Way: 2, Length: 119}, 1)
	expect(t, "Print in rows", s, e, []string{"1 A  A", "2 A  A", "3 A  A"})
	s, e = edition.Print(v, 0, api.Page{Way: 3, Length: 119}, 1)
	expect(t, "Print in columns", s, e, []string{"1 A-A-A  A-A-A"})
}

// P12.6: errors, in their order.
func TestPrintErrors(t *testing.T) {
	v := volume(t, values, "a", "A1", "b", "B2")
	noPage := api.Page{Way: 5, Length: 48}
	for _, c := range []struct {
		v      api.Volume
		item   int
		page   api.Page
		period int
		want   api.Errno
	}{
		{v, 0, wide, 1, api.OK}, {v, 1, api.Page{Way: 4, Length: 48}, 3, api.OK},
		{v, -1, wide, 1, api.ErrArg}, {v, 2, wide, 1, api.ErrArg}, {v, math.MaxInt, wide, 1, api.ErrArg}, {v, math.MinInt, wide, 1, api.ErrArg},
		{v, 0, noPage, 1, api.ErrPage}, {v, 0, api.Page{}, 1, api.ErrPage}, {v, 0, api.Page{Way: 1, Length: 47}, 1, api.ErrPage}, {v, 0, api.Page{Way: 1, Length: 4801}, 1, api.ErrPage},
		{v, 0, wide, 0, api.ErrPeriod}, {v, 0, wide, 4, api.ErrPeriod}, {v, 0, wide, math.MinInt, api.ErrPeriod},
		{v, 2, noPage, 0, api.ErrArg}, {v, 0, noPage, 0, api.ErrPage}, {v, -1, wide, 0, api.ErrArg},
		{broken(), -1, noPage, 0, api.ErrDepth}, {volume(t, values), 0, wide, 1, api.ErrArg},
	} {
		s, e := edition.Print(c.v, c.item, c.page, c.period)
		if e != c.want || e != api.OK && len(s) > 0 {
			t.Errorf("Print of %d, %v, %d = %v, %d, want %d", c.item, c.page, c.period, s, e, c.want)
		}
	}
}

// wordAsTold is the word of a mark in a period.
func wordAsTold(l api.List, m api.Mark, period int) string {
	if m.Sign < 0 {
		return fmt.Sprintf("[%d-%d]", m.Min, m.Max)
	}
	word := l.Signs[m.Sign].Code
	at := slices.IndexFunc(l.Signs[m.Sign].Values, func(v api.Value) bool { return v.Kind == api.Sound && v.From <= period && v.To >= period })
	if at >= 0 {
		word = l.Signs[m.Sign].Values[at].Text
		place := 1
		for _, s := range l.Signs[:m.Sign] {
			if slices.ContainsFunc(s.Values, func(v api.Value) bool {
				return v.Kind == api.Sound && v.Text == word && v.From <= period && v.To >= period
			}) {
				place++
			}
		}
		if place > 1 {
			word += fmt.Sprint(place)
		}
	}
	return strings.TrimSpace([]string{" ", "(", "<", "{"}[m.State] + word + []string{" ", ")", ">", "}"}[m.State])
}

// P12.5
func TestConcordAsTold(t *testing.T) {
	d := dice(50)
	for range 1000 {
		v := d.volume(4)
		if len(v.List.Signs) == 0 {
			continue
		}
		sign, wide, period := d.below(len(v.List.Signs)), d.below(api.MaxContext+1), 1+d.below(v.List.Periods)
		var want []string
		for _, p := range placesAsTold(t, v, sign) {
			line := fmt.Sprint(v.Items[p.Item].Title, ":", p.At, " ")
			for at, m := range marks(t, v, p.Item) {
				word := wordAsTold(v.List, m, period)
				switch {
				case at == p.At:
					line += "*" + word + "*"
				case at < p.At && at >= p.At-wide:
					line += word + " "
				case at > p.At && at <= p.At+wide:
					line += " " + word
				}
			}
			want = append(want, line)
		}
		s, e := edition.Concord(v, sign, wide, period)
		expect(t, "Concord", s, e, want)
		if t.Failed() {
			t.Fatalf("%v, %d, %d, %d", v, sign, wide, period)
		}
	}
}

// P12.6
func TestPrintAsTold(t *testing.T) {
	d := dice(51)
	seen := 0
	for range 1500 {
		v := d.volume(3)
		if len(v.Items) == 0 {
			continue
		}
		item, period := d.below(len(v.Items)), 1+d.below(v.List.Periods)
		page := api.Page{Way: 1 + d.below(4), Length: pick(&d, 48, 60, 100, 200, 4800)}
		s, e := edition.Print(v, item, page, period)
		want := printedAsTold(t, v, item, page, period)
		expect(t, "Print", s, e, want)
		if t.Failed() {
			t.Fatalf("%v, %d, %v, %d", v, item, page, period)
		}
		if len(want) > 1 {
			seen++
		}
	}
	if seen < 200 {
		t.Errorf("only %d texts have more than one line", seen)
	}
}

// printedAsTold are the lines of an item of a page, taken out of it group by group.
func printedAsTold(t *testing.T, v api.Volume, item int, page api.Page, period int) []string {
	t.Helper()
	text := v.Items[item].Text
	lines, _ := grid.Lines(v.List, text, page)
	starts, _ := groups.Groups(v.List, text)
	var all []string
	for i, line := range lines {
		var part api.Text
		for at, group := range line {
			sub, _ := groups.Sub(v.List, text, starts[group])
			part, _ = groups.Splice(v.List, part, at, at, sub)
		}
		written, _ := code.Write(code.Line, v.List, part)
		marks, e := groups.Line(v.List, part)
		if e != api.OK {
			t.Fatalf("groups.Line of %v: %d", part, e)
		}
		var words []string
		for _, m := range marks {
			words = append(words, wordAsTold(v.List, m, period))
		}
		all = append(all, fmt.Sprintf("%d %s  %s", i+1, written, strings.Join(words, "-")))
	}
	return all
}
