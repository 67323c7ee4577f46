package annals_test

import (
	"math"
	"slices"
	"testing"

	"ostracon/annals"
	"ostracon/api"
)

// days is a ledger whose units are years, months and days.
func days() api.Ledger { return api.Ledger{Units: []int{360, 30, 1}} }

func row(sums int, amounts ...int) api.Row { return api.Row{Amounts: amounts, Sums: sums} }

// allUnits are lists of units, and whether they are valid.
func allUnits() map[bool][][]int {
	return map[bool][][]int{
		true:  {{1}, {2, 1}, {1000000, 1}, {360, 30, 1}, {32, 16, 8, 4, 2, 1}, {1000000, 500000, 1}, {9, 3, 1}},
		false: {nil, {}, {0}, {2}, {-1}, {30, 7, 1}, {1, 1}, {30, 30, 1}, {1, 2}, {1, 30, 1}, {30, 2}, {1000001, 1}, {2000000, 1000000, 1}, {64, 32, 16, 8, 4, 2, 1}, {0, 1}, {5, 0, 1}, {0, 0, 1}, {-2, 1}, {30, -30, 1}, {-30, -15, 1}, {10, 15, 1}, {15, 10, 1}, {60, 30, 0}, {math.MinInt, -1, 1}, {math.MaxInt, 1}, {4, 2}, {4, 2, 1, 1}},
	}
}

// P11.11
func TestUnits(t *testing.T) {
	for valid, all := range allUnits() {
		for _, units := range all {
			l := api.Ledger{Units: units}
			amounts := make([]int, len(units))
			n, e := annals.Worth(l, amounts)
			carried, e2 := annals.Carry(l, 0)
			wrong, e3 := annals.Audit(l)
			if valid {
				expect(t, "Worth", n, e, 0)
				expect(t, "Carry", carried, e2, amounts)
				expect(t, "Audit", wrong, e3, nil)
				continue
			}
			expectError(t, "Worth", n, e, api.ErrUnit)
			expectError(t, "Carry", carried, e2, api.ErrUnit)
			expectError(t, "Audit", wrong, e3, api.ErrUnit)
			// The errors of what is measured come behind those of the units.
			l.Rows = slices.Repeat([]api.Row{row(-1, -1)}, api.MaxLedger+1)
			n, e = annals.Worth(l, []int{-1, -1, -1, -1})
			expectError(t, "Worth", n, e, api.ErrUnit)
			carried, e = annals.Carry(l, -1)
			expectError(t, "Carry", carried, e, api.ErrUnit)
			wrong, e = annals.Audit(l)
			expectError(t, "Audit", wrong, e, api.ErrUnit)
		}
	}
}

// P11.11
func TestWorth(t *testing.T) {
	for _, c := range []struct {
		units, amounts []int
		want           int
	}{
		{[]int{360, 30, 1}, []int{1, 1, 10}, 400}, {[]int{360, 30, 1}, []int{0, 0, 0}, 0}, {[]int{360, 30, 1}, []int{0, 13, 40}, 430}, {[]int{360, 30, 1}, []int{2, 0, 1}, 721}, {[]int{1}, []int{1000000}, 1000000},
		{[]int{1000000, 1}, []int{1000000, 1000000}, 1000001000000},
		{[]int{1000000, 500000, 250000, 125000, 5, 1}, []int{1000000, 1000000, 1000000, 1000000, 1000000, 1000000}, 1875006000000},
	} {
		got, e := annals.Worth(api.Ledger{Units: c.units}, c.amounts)
		expect(t, "Worth", got, e, c.want)
	}
	for _, amounts := range notAmounts() {
		got, e := annals.Worth(days(), amounts)
		expectError(t, "Worth", got, e, api.ErrRow)
	}
	// The rows of the ledger do not matter.
	l := days()
	l.Rows = slices.Repeat([]api.Row{row(-1, -1)}, api.MaxLedger+1)
	got, e := annals.Worth(l, []int{1, 2, 3})
	expect(t, "Worth", got, e, 423)
	amounts, e := annals.Carry(l, 423)
	expect(t, "Carry", amounts, e, []int{1, 2, 3})
}

// notAmounts are not amounts of three units.
func notAmounts() [][]int {
	return [][]int{nil, {}, {1}, {1, 1}, {1, 1, 1, 1}, {-1, 1, 1}, {1, -1, 1}, {1, 1, -1}, {1000001, 1, 1}, {1, 1, 1000001}, {math.MinInt, 0, 0}, {0, math.MaxInt, 0}}
}

// P11.11
func TestCarry(t *testing.T) {
	for _, c := range []struct {
		units []int
		worth int
		want  []int
	}{
		{[]int{360, 30, 1}, 400, []int{1, 1, 10}}, {[]int{360, 30, 1}, 0, []int{0, 0, 0}}, {[]int{360, 30, 1}, 29, []int{0, 0, 29}}, {[]int{360, 30, 1}, 30, []int{0, 1, 0}}, {[]int{360, 30, 1}, 359, []int{0, 11, 29}}, {[]int{360, 30, 1}, 720, []int{2, 0, 0}}, {[]int{360, 30, 1}, 1000000, []int{2777, 9, 10}},
		{[]int{1}, 1000000, []int{1000000}}, {[]int{1000000, 1}, 1000000, []int{1, 0}}, {[]int{1000000, 1}, 999999, []int{0, 999999}},
	} {
		got, e := annals.Carry(api.Ledger{Units: c.units}, c.worth)
		expect(t, "Carry", got, e, c.want)
	}
	for _, worth := range []int{-1, 1000001, math.MinInt, math.MaxInt} {
		got, e := annals.Carry(days(), worth)
		expectError(t, "Carry", got, e, api.ErrArg)
	}
}

// P11.11 and P11.18: Carry gives what it is given, and from the greatest unit on no
// amount could be greater.
func TestWorthOfCarry(t *testing.T) {
	d := dice(70)
	for range 3000 {
		l := api.Ledger{Units: d.units()}
		given := d.below([]int{api.MaxWorth + 1, 1000}[d.below(2)])
		amounts, e := annals.Carry(l, given)
		if e != api.OK || len(amounts) != len(l.Units) {
			t.Fatalf("Carry of %d in %v = %v, %d", given, l.Units, amounts, e)
		}
		n, e := annals.Worth(l, amounts)
		expect(t, "Worth of Carry", n, e, given)
		rest := given
		for i, unit := range l.Units {
			if amounts[i] < 0 || (amounts[i]+1)*unit <= rest {
				t.Fatalf("Carry of %d in %v = %v", given, l.Units, amounts)
			}
			rest -= amounts[i] * unit
		}
	}
}

// P11.12
func TestAudit(t *testing.T) {
	for _, c := range []struct {
		rows []api.Row
		want []api.Wrong
	}{
		{nil, nil},
		{[]api.Row{row(0, 1, 2, 3)}, nil},
		{[]api.Row{row(0, 0, 0, 10), row(0, 0, 0, 25), row(2, 0, 1, 5)}, nil},
		{[]api.Row{row(0, 0, 0, 10), row(0, 0, 0, 25), row(2, 0, 0, 35)}, nil},
		{[]api.Row{row(0, 0, 0, 10), row(0, 0, 0, 25), row(2, 0, 1, 6)}, []api.Wrong{{Row: 2, By: 1}}},
		{[]api.Row{row(0, 0, 0, 10), row(0, 0, 0, 25), row(1, 0, 1, 5)}, []api.Wrong{{Row: 2, By: 10}}},
		{[]api.Row{row(0, 0, 0, 10), row(0, 0, 0, 25), row(1, 0, 0, 25), row(2, 0, 0, 35)}, nil},
		// The sum that is wrong is counted with what it says, 5 and not 10.
		{[]api.Row{row(0, 0, 0, 10), row(1, 0, 0, 5), row(0, 0, 0, 2), row(2, 0, 0, 12)}, []api.Wrong{{Row: 1, By: -5}, {Row: 3, By: 5}}},
		{[]api.Row{row(0, 0, 0, 10), row(1, 0, 0, 5), row(0, 0, 0, 2), row(2, 0, 0, 7)}, []api.Wrong{{Row: 1, By: -5}}},
		// Rows that a sum has counted are passed over.
		{[]api.Row{row(0, 0, 0, 1), row(0, 0, 0, 2), row(0, 0, 0, 4), row(2, 0, 0, 6), row(0, 0, 0, 8), row(3, 0, 0, 15)}, nil},
		{[]api.Row{row(0, 0, 0, 1), row(0, 0, 0, 2), row(0, 0, 0, 4), row(2, 0, 0, 6), row(1, 0, 0, 6), row(1, 0, 0, 6), row(2, 0, 0, 8)}, []api.Wrong{{Row: 6, By: 1}}},
		{[]api.Row{row(0, 1, 1, 1), row(1, 0, 0, 0)}, []api.Wrong{{Row: 1, By: -391}}},
		{[]api.Row{row(0, 1000000, 0, 0), row(0, 1000000, 1000000, 1000000), row(2, 0, 0, 0)}, []api.Wrong{{Row: 2, By: -751000000}}},
	} {
		l := days()
		l.Rows = c.rows
		got, e := annals.Audit(l)
		expect(t, "Audit", got, e, c.want)
	}
}

// P11.12
func TestAuditErrors(t *testing.T) {
	l := days()
	l.Rows = slices.Repeat([]api.Row{row(0, 0, 0, 1)}, api.MaxLedger)
	l.Rows[199] = row(199, 0, 0, 199)
	got, e := annals.Audit(l)
	expect(t, "Audit of all rows", got, e, nil)
	l.Rows[199] = row(200, 0, 0, 199)
	got, e = annals.Audit(l)
	expectError(t, "Audit of a sum of too many", got, e, api.ErrRow)
	l.Rows = append(l.Rows, row(0, 0, 0, 1))
	got, e = annals.Audit(l)
	expectError(t, "Audit of too many rows", got, e, api.ErrMany)
	bad := [][]api.Row{
		{row(-1, 0, 0, 1)}, {row(1, 0, 0, 1)}, {row(0, 0, 0, 1), row(2, 0, 0, 1)}, {row(0, 0, 0, 1), row(1, 0, 0, 1), row(2, 0, 0, 1)}, {row(0, 0, 0, 1), row(-1, 0, 0, 1)}, {row(0, 0, 0, 1), row(0, 0, 0, 1), row(2, 0, 0, 2), row(1, 0, 0, 1), row(2, 0, 0, 2)},
		{row(0, 0, 0, 1), row(math.MaxInt, 0, 0, 1)}, {row(0, 0, 0, 1), row(math.MinInt, 0, 0, 1)},
	}
	for _, amounts := range notAmounts() {
		bad = append(bad, []api.Row{row(0, amounts...)}, []api.Row{row(0, 0, 0, 1), row(1, amounts...)}, []api.Row{row(0, 0, 0, 1), row(0, amounts...), row(1, 0, 0, 0)})
	}
	for _, rows := range bad {
		l.Rows = rows
		got, e := annals.Audit(l)
		expectError(t, "Audit", got, e, api.ErrRow)
	}
}

// P11.12
func TestAuditAsTold(t *testing.T) {
	d := dice(71)
	found := 0
	for range 3000 {
		l := d.ledger(30, true)
		got, e := annals.Audit(l)
		want := wrongs(l)
		found += len(want)
		expect(t, "Audit", got, e, want)
	}
	if found < 2000 {
		t.Errorf("only %d sums are wrong", found)
	}
}

// P11.18: sums that are those of their rows are not wrong.
func TestAuditOfRightSums(t *testing.T) {
	d := dice(72)
	sums := 0
	for range 2000 {
		l := d.ledger(40, false)
		got, e := annals.Audit(l)
		expect(t, "Audit", got, e, nil)
		for i, row := range l.Rows {
			if row.Sums > 0 {
				sums++
				l.Rows[i].Amounts[d.below(len(l.Units))]++
				got, e := annals.Audit(l)
				if e != api.OK || len(got) < 1 || got[0].Row != i {
					t.Fatalf("Audit of %v = %v, %d", l, got, e)
				}
				break
			}
		}
	}
	if sums < 500 {
		t.Errorf("only %d sums are seen", sums)
	}
}
