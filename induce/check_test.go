package induce_test

import (
	"math"
	"slices"
	"strings"
	"testing"

	"ostracon/api"
	"ostracon/induce"
)

// P10.3
func TestCheck(t *testing.T) {
	h, corpus := example(t)
	for _, x := range []struct {
		l    []api.Needed
		want api.Errno
	}{
		{[]api.Needed{need(0, 0, 1), need(1, 2)}, api.OK},
		{[]api.Needed{need(0, 0, 1), need(2, 2)}, api.OK}, // not what Induce returns, but as good
		{[]api.Needed{need(0, 0, 1)}, api.ErrNeed},        // the line 2 cannot be read
		{[]api.Needed{need(1, 2)}, api.ErrNeed},
		{nil, api.ErrNeed},
		{[]api.Needed{need(0, 0, 1), need(1)}, api.ErrNeed},
		{[]api.Needed{need(0), need(1, 2)}, api.ErrNeed},
		{[]api.Needed{need(0, 0), need(1, 2)}, api.ErrNeed},
		{[]api.Needed{need(0, 1), need(1, 2)}, api.ErrNeed},
		{[]api.Needed{need(0, 1, 0), need(1, 2)}, api.ErrNeed},
		{[]api.Needed{need(0, 0, 0, 1), need(1, 2)}, api.ErrNeed},
		{[]api.Needed{need(0, 0, 1), need(1, 0, 2)}, api.ErrNeed},
		{[]api.Needed{need(0, 0, 1), need(1, -1)}, api.ErrNeed},
		{[]api.Needed{need(0, 0, 1), need(1, 2, 3)}, api.ErrNeed},
		{[]api.Needed{need(0, 0, 1), need(1, 2), need(3)}, api.ErrNeed}, // needed by no line, as it says
		{[]api.Needed{need(0, 0, 1), need(1, 2), need(2)}, api.ErrNeed},
		{[]api.Needed{need(0, 1), need(1, 2), need(3, 0)}, api.ErrNeed},
		{[]api.Needed{need(1, 2), need(0, 0, 1)}, api.ErrArg},
		{[]api.Needed{need(0, 0, 1), need(1, 2), need(1, 2)}, api.ErrArg},
		{[]api.Needed{need(0, 0, 1), need(1, 2), need(4)}, api.ErrArg},
		{[]api.Needed{need(-1), need(0, 0, 1), need(1, 2)}, api.ErrArg},
		{[]api.Needed{need(4)}, api.ErrArg},
	} {
		if e := induce.Check(h, corpus, x.l); e != x.want {
			t.Errorf("Check of %v: %d, want %d", x.l, e, x.want)
		}
	}
	for _, keep := range badChoices() {
		var l []api.Needed
		for _, entry := range keep {
			l = append(l, need(entry, 0))
		}
		expectError(t, "Check", 0, induce.Check(h, corpus, l), api.ErrArg)
		expectError(t, "Check", 0, induce.Check(h, lines(t, h, "D1 D1 G1"), l), api.ErrArg)
	}
	expectError(t, "Check of nothing", 0, induce.Check(h, nil, nil), api.OK)
	expectError(t, "Check of nothing", 0, induce.Check(h, [][]int{nil}, nil), api.OK)
	expectError(t, "Check of nothing", 0, induce.Check(h, nil, []api.Needed{need(0)}), api.ErrNeed)
	expectError(t, "Check of no reading", 0, induce.Check(h, lines(t, h, "D1 D1 G1"), []api.Needed{need(3, 0)}), api.ErrNeed)
}

// P10.3
func TestCheckAsTold(t *testing.T) {
	d := dice(7)
	accepted, refused := 0, 0
	for range 1500 {
		h := d.roll()
		corpus, keep := d.lines(h, 4), d.choice(h)
		if small, ok := fewest(h, corpus); ok && d.below(2) == 0 {
			keep = small
		}
		want := api.OK
		if !allReadable(h, corpus, keep) {
			want = api.ErrNeed
		}
		var l []api.Needed
		for _, entry := range keep {
			n := need(entry, needs(h, corpus, keep, entry)...)
			if len(n.Lines) == 0 {
				want = api.ErrNeed
			}
			if d.below(10) == 0 && len(corpus) > 0 {
				lines := n.Lines
				n.Lines = slices.DeleteFunc(upTo(len(corpus)), func(i int) bool { return slices.Contains(lines, i) })
				want = api.ErrNeed
			}
			l = append(l, n)
		}
		if e := induce.Check(h, corpus, l); e != want {
			t.Fatalf("Check in %v of %v, %v: %d, want %d", h, corpus, l, e, want)
		}
		if want == api.OK && len(l) > 1 {
			accepted++
		} else if want != api.OK {
			refused++
		}
	}
	if accepted < 100 || refused < 100 {
		t.Errorf("%d choices of more than one entry were accepted, %d refused", accepted, refused)
	}
}

func places(l ...induce.Place) []induce.Place { return l }

func place(line, from, to int) induce.Place { return induce.Place{Line: line, From: from, To: to} }

// P10.3
func TestPlaces(t *testing.T) {
	h, corpus := example(t)
	// With r, n=f r costs as little as nfr in line 0, and its first word is shorter.
	for _, x := range []struct {
		corpus [][]int
		keep   []int
		entry  int
		want   []induce.Place
	}{
		{corpus, []int{0, 1}, 0, places(place(0, 0, 3), place(1, 0, 2))},
		{corpus, []int{0, 1}, 1, places(place(2, 0, 2))},
		{corpus, []int{0, 1, 3}, 0, places(place(1, 0, 2))},
		{corpus, []int{0, 1, 3}, 1, places(place(0, 0, 2), place(2, 0, 2))},
		{corpus, []int{0, 1, 3}, 3, places(place(0, 2, 3))},
		{corpus, []int{0, 2, 3}, 2, places(place(0, 0, 2), place(2, 0, 2))},
		{corpus, []int{0, 2, 3}, 3, places(place(0, 2, 3))},
		{corpus, []int{0, 1, 2, 3}, 1, nil},
		{corpus[:1], []int{1, 3}, 3, places(place(0, 2, 3))},
		{lines(t, h, "D1 D1 A1 D1", "", "A1 C1 D1"), []int{1, 3}, 3, places(place(0, 0, 1), place(0, 1, 2), place(0, 3, 4), place(2, 2, 3))},
		{lines(t, h, "D1 D1 A1 D1", "", "A1 C1 D1"), []int{1, 3}, 1, places(place(0, 2, 3), place(2, 0, 2))},
		{lines(t, h, "A1 A1 C1", "H1 A1 C1"), []int{1}, 1, places(place(0, 0, 1), place(0, 1, 3), place(1, 0, 3))},
		{[][]int{nil}, []int{2}, 2, nil},
		{nil, []int{2}, 2, nil},
	} {
		got, e := induce.Places(h, x.corpus, x.keep, x.entry)
		expect(t, "Places", got, e, x.want)
	}
}

// P10.3
func TestErrorsOfPlaces(t *testing.T) {
	h, corpus := example(t)
	for _, x := range []struct {
		corpus [][]int
		keep   []int
		entry  int
		want   api.Errno
	}{
		{corpus, []int{1, 3}, 0, api.ErrArg}, // the line 1 is not readable either
		{corpus, []int{1, 3}, 2, api.ErrArg},
		{corpus, []int{1, 3}, 4, api.ErrArg},
		{corpus, []int{1, 3}, -1, api.ErrArg},
		{corpus, []int{1, 3}, math.MaxInt, api.ErrArg},
		{corpus, nil, 0, api.ErrArg},
		{corpus, []int{3, 1}, 1, api.ErrArg},
		{corpus, []int{1, 1}, 1, api.ErrArg},
		{corpus, []int{1, 4}, 1, api.ErrArg},
		{corpus, []int{-1, 1}, 1, api.ErrArg},
		{corpus, []int{1, 3}, 1, api.ErrReading},
		{corpus, []int{0, 3}, 3, api.ErrReading},
		{lines(t, h, "D1 D1 G1"), []int{0, 1, 2, 3}, 3, api.ErrReading},
		{lines(t, h, "D1", "G1"), []int{3}, 3, api.ErrReading},
	} {
		got, e := induce.Places(h, x.corpus, x.keep, x.entry)
		expectError(t, "Places", got, e, x.want)
	}
	for _, keep := range badChoices() {
		got, e := induce.Places(h, corpus, keep, keep[0])
		expectError(t, "Places", got, e, api.ErrArg)
	}
}

// P10.3
func TestPlacesAsTold(t *testing.T) {
	d := dice(8)
	found, unread := 0, 0
	for range 1500 {
		h := d.roll()
		corpus, keep := d.lines(h, 3), d.choice(h)
		for _, entry := range keep {
			want, ok := placesOf(h, corpus, keep, entry)
			got, e := induce.Places(h, corpus, keep, entry)
			if !ok {
				expectError(t, "Places", got, e, api.ErrReading)
				unread++
				continue
			}
			expect(t, "Places", got, e, want)
			found += len(want)
		}
	}
	if found < 500 || unread < 500 {
		t.Errorf("%d places were found, %d corpora were not readable", found, unread)
	}
}

// P10.4
func TestReport(t *testing.T) {
	h, corpus := example(t)
	list, _ := induce.Induce(h, corpus)
	got, e := induce.Report(h, list)
	expect(t, "Report", got, e, "nfr good: 0 1\nn: 2\n")
	for _, x := range []struct {
		l    []api.Needed
		want string
	}{
		{nil, ""},
		{[]api.Needed{need(3)}, "r:\n"},
		{[]api.Needed{need(0)}, "nfr good:\n"},
		{[]api.Needed{need(2, 0, 9, 10, 39), need(0, 5), need(2, 0)}, "nf: 0 9 10 39\nnfr good: 5\nnf: 0\n"},
	} {
		got, e := induce.Report(h, x.l)
		expect(t, "Report", got, e, x.want)
	}
	got, e = induce.Report(h, slices.Repeat([]api.Needed{need(1, upTo(3)...)}, api.MaxWords))
	expect(t, "Report of many", got, e, strings.Repeat("n: 0 1 2\n", api.MaxWords))
	got, e = induce.Report(h, []api.Needed{need(0, upTo(api.MaxCorpus)...)})
	if e != api.OK || !strings.HasPrefix(got, "nfr good: 0 1 2 3 ") || !strings.HasSuffix(got, " 37 38 39\n") {
		t.Errorf("Report of all lines = %q, %d", got, e)
	}
}

// P10.4
func TestErrorsOfReport(t *testing.T) {
	h, _ := example(t)
	for _, n := range []api.Needed{
		need(-1), need(4), need(math.MaxInt), need(math.MinInt, 0),
		need(0, -1), need(0, 40), need(0, 0, 40), need(0, 1, 0), need(0, 1, 1), need(0, 0, 2, 1), need(0, -1, 0), need(0, math.MaxInt), need(0, math.MinInt, 3),
		need(0, 38, 39, 40), need(0, upTo(41)...), need(0, append(upTo(40), 39)...), need(0, 5, math.MaxInt, math.MinInt),
	} {
		for _, l := range [][]api.Needed{{n}, {need(1, 2), n}, {n, need(1, 2)}} {
			got, e := induce.Report(h, l)
			expectError(t, "Report", got, e, api.ErrArg)
		}
	}
	for _, l := range [][]api.Needed{
		slices.Repeat([]api.Needed{need(0)}, api.MaxWords+1), slices.Repeat([]api.Needed{need(-1)}, api.MaxWords+1),
	} {
		got, e := induce.Report(h, l)
		expectError(t, "Report", got, e, api.ErrMany)
	}
	got, e := induce.Report(h, slices.Repeat([]api.Needed{need(-1)}, api.MaxWords))
	expectError(t, "Report", got, e, api.ErrArg)
}
