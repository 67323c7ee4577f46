package annals

import "ostracon/api"

// Worth returns how many of the least unit amounts are.
func Worth(l api.Ledger, amounts []int) (int, api.Errno) {
	if !areUnits(l.Units) {
		return 0, api.ErrUnit
	}
	if !areAmounts(l, amounts) {
		return 0, api.ErrRow
	}
	return worthOf(l, amounts), api.OK
}

// Carry returns the amounts with a worth.
func Carry(l api.Ledger, worth int) ([]int, api.Errno) {
	if !areUnits(l.Units) {
		return nil, api.ErrUnit
	}
	if worth < 0 || worth > api.MaxWorth {
		return nil, api.ErrArg
	}
	amounts := make([]int, len(l.Units))
	for i, unit := range l.Units {
		amounts[i] = worth / unit
		worth %= unit
	}
	return amounts, api.OK
}

// Audit returns the sums that are wrong.
func Audit(l api.Ledger) ([]api.Wrong, api.Errno) {
	if !areUnits(l.Units) {
		return nil, api.ErrUnit
	}
	if len(l.Rows) > api.MaxLedger {
		return nil, api.ErrMany
	}
	var wrong []api.Wrong
	var open []int // what each row is worth that no sum has counted yet
	for i, row := range l.Rows {
		if !areAmounts(l, row.Amounts) || row.Sums < 0 || row.Sums > len(open) {
			return nil, api.ErrRow
		}
		worth, first := worthOf(l, row.Amounts), len(open)-row.Sums
		if by := worth - total(open[first:]); row.Sums > 0 && by != 0 {
			wrong = append(wrong, api.Wrong{Row: i, By: by})
		}
		open = append(open[:first], worth)
	}
	return wrong, api.OK
}

// areUnits reports whether numbers are the worths of units.
func areUnits(units []int) bool {
	if len(units) < 1 || len(units) > api.MaxUnits || units[len(units)-1] != 1 {
		return false
	}
	for i, unit := range units {
		if unit < 1 || unit > api.MaxWorth {
			return false
		}
		if i > 0 && (units[i-1] <= unit || units[i-1]%unit != 0) {
			return false
		}
	}
	return true
}

// areAmounts reports whether there is an amount of each unit.
func areAmounts(l api.Ledger, amounts []int) bool {
	for _, n := range amounts {
		if n < 0 || n > api.MaxWorth {
			return false
		}
	}
	return len(amounts) == len(l.Units)
}

func worthOf(l api.Ledger, amounts []int) int {
	worth := 0
	for i, n := range amounts {
		worth += n * l.Units[i]
	}
	return worth
}

func total(numbers []int) int {
	sum := 0
	for _, n := range numbers {
		sum += n
	}
	return sum
}
