package grid

import (
	"cmp"

	"ostracon/api"
)

// Less compares two fractions.
func Less(a, b api.Frac) (bool, api.Errno) {
	if !isValid(a) || !isValid(b) {
		return false, api.ErrArg
	}
	return compare(a, b) < 0, api.OK
}

func isValid(f api.Frac) bool {
	if f.Den < 1 || f.Den > api.MaxDen || f.Num < -api.MaxNum || f.Num > api.MaxNum {
		return false
	}
	return f == fraction(f.Num, f.Den)
}

// fraction returns num/den reduced; den is above 0. Valid fractions are equal
// exactly if they are the same value, because all are reduced.
func fraction(num, den int) api.Frac {
	d := divisor(num, den)
	return api.Frac{Num: num / d, Den: den / d}
}

// divisor returns the greatest number that divides both; b is above 0.
func divisor(a, b int) int {
	a = max(a, -a)
	for a != 0 {
		a, b = b%a, a
	}
	return b
}

func whole(n int) api.Frac {
	return api.Frac{Num: n, Den: 1}
}

func plus(a, b api.Frac) api.Frac {
	return fraction(a.Num*b.Den+b.Num*a.Den, a.Den*b.Den)
}

func minus(a, b api.Frac) api.Frac {
	return plus(a, negative(b))
}

func negative(f api.Frac) api.Frac {
	return api.Frac{Num: -f.Num, Den: f.Den}
}

func times(f api.Frac, n int) api.Frac {
	return fraction(f.Num*n, f.Den)
}

func quotient(f api.Frac, n int) api.Frac {
	return fraction(f.Num, f.Den*n)
}

// ceiling returns the least whole number that is not less than a fraction, which is not below 0.
func ceiling(f api.Frac) int {
	return (f.Num + f.Den - 1) / f.Den
}

func compare(a, b api.Frac) int {
	return cmp.Compare(a.Num*b.Den, b.Num*a.Den)
}
